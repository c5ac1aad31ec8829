/-
  Contract: spec.l11Prior, the last event ahead at an event's node.
  A queue of ints in memory: a slice that is cut at its front and grows at its end.
  Contract: spec.l1Has.
  Small facts on lists of ints that chapter 4's contracts and walks share. Nothing of the program's text is proved here but closed facts on its types.
  Contract: spec.l1Put: a number put into a list that the caller owns.
  Contract: spec.l1Put of a number that is not there: new memory.
  Contract: spec.l11First, the events that came first for one.
  Plain mathematics: the cut of an event. Nothing of Go stands here.
-/
import Derived.Test.YtkfnejiiancmhadBundle1
import Derived.Test.YtkfnejiiancmhadBundle3
import Derived.ArgAppend
import Derived.Maps.AppendAt
import Derived.Deep.DeepCutAuto
import Derived.Deep.RegionHeld3
namespace Go.Proofs.Ytkfnejiiancmhad.L11
open Go.RowKit L1 Own
set_option linter.unusedVariables false

theorem below_drewP {N : Nat} {w w' : World} (h : Below N w w') : ∀ q, Below N w (w'.drewN q)
  | 0 => h
  | q + 1 => (below_drewP h q).drew
set_option maxRecDepth 100000 in
set_option maxHeartbeats 4000000 in
theorem prior_any (b off : Nat) (l : List (Int × Int)) (n cap k : Nat) (w : World) (hn : l.length = n) (hs : Sl2 w (some ⟨b, off, none⟩) l) (hk : k < n) (hn2 : n ≤ 1048576) (p : Int) (hp : p = pri l (nd l k) k) :
    Calls Try.prog 82 #[.slice (some ⟨b, off, none⟩) n cap, .int .i64 k] w fun e w' => e = .returned (.int .i64 p) ∧ Below w.heap.size w w' := by
  obtain ⟨hx, q1⟩ := hs.two k (by omega)
  clear q1
  have hkI : (k : Int) < (n : Int) := by omega
  have hk0 : (0 : Int) ≤ (k : Int) := by omega
  obtain ⟨x, hxe⟩ : ∃ x, x = nd l k := ⟨_, rfl⟩
  rw [← hxe] at hx hp
  have HP := hide hp
  have HS := hide hs
  have HN := hide hn
  have HX := hide hx
  clear hs hn hxe hp hx
  go_enter Try.func82, Try.ntmps82
  go_wp2
  go_loopw [5] (fun i wr => ∃ j : Nat, j ≤ k ∧ i = .int .i64 ((j : Int) - 1) ∧ Hid (p = pri l x j) ∧ Below w.heap.size w wr) (fun i _ => (intOf i + 1).toNat)
  case atStart => exact ⟨k, Nat.le_refl _, rfl, HP, Below.refl _ _⟩
  case round =>
    obtain ⟨j, hj, rfl, HJ, hbel⟩ := hrel
    match j, hj, HJ with
    | 0, hj, HJ =>
      have e : Hid (p = -1) := HJ.out
      have h00 : ((0 : Nat) : Int) - 1 = -1 := by omega
      rw [h00]
      clear h00
      go_wp2
      go_ret
      exact ⟨by rw [e.out]; rfl, hbel⟩
    | q + 1, hj, HJ =>
      have h00 : ((q + 1 : Nat) : Int) - 1 = (q : Int) := by omega
      rw [h00]
      clear h00
      obtain ⟨hz, q1⟩ := HS.out.two q (by rw [HN.out]; omega)
      clear q1
      have hz2 := (hbel.cell (p := ⟨b, off + q * 2, none⟩) (blk_lt hz)).trans hz
      have hx2 := (hbel.cell (p := ⟨b, off + k * 2, none⟩) (blk_lt HX.out)).trans HX.out
      have hu : pri l x (q + 1) = if nd l q = x then (q : Int) else pri l x q := rfl
      obtain ⟨z, hze⟩ : ∃ z, z = nd l q := ⟨_, rfl⟩
      rw [← hze] at hz2 hu
      have hqI : (q : Int) < (n : Int) := by omega
      have hq0 : (0 : Int) ≤ (q : Int) := by omega
      have HU := hide hu
      clear hz hze hu
      by_cases hzx : z = x
      · have e : Hid (p = (q : Int)) := by rw [HJ.out, HU.out, if_pos hzx]; rfl
        clear HU HJ
        subst hzx
        go_wp2
        go_quiet (fail)
        go_wp2
        go_ret
        exact ⟨by rw [e.out]; rfl, below_drewP hbel _⟩
      · have e : Hid (p = pri l x q) := by rw [HJ.out, HU.out, if_neg hzx]; rfl
        have hzb : (z == x) = false := by simp [hzx]
        clear HU HJ
        go_wp2
        go_quiet (fail)
        go_wp2
        go_roundw
        case rel => exact ⟨q, by omega, by go_num, e, below_drewP hbel _⟩
        case measure => simp [intOf] <;> omega
end Go.Proofs.Ytkfnejiiancmhad.L11

namespace Go.Proofs.Ytkfnejiiancmhad.Own
open Go.RowKit L1
set_option linter.unusedVariables false

/-- A queue lies in a block. -/
structure Qu (w : World) (B b off cap : Nat) (xs : List Int) : Prop where
  ge : B ≤ b
  le : xs.length ≤ cap
  mx : cap ≤ maxLen
  blk : ∃ cur, w.heap[b]? = some (.cells cur 3 (0, 0)) ∧ off + cap ≤ cur.size ∧ ∀ j, j < xs.length → cur[off + j]? = some (.int .i64 (xs.getD j 0))
section
variable {w w' : World} {B b off cap : Nat} {xs : List Int}
theorem Qu.cell (h : Qu w B b off cap xs) (j : Nat) (hj : j < xs.length) : w.cell? ⟨b, off + j, none⟩ = some (.int .i64 (xs.getD j 0)) := by
  obtain ⟨cur, h1, h2, h3⟩ := h.blk
  unfold World.cell?
  simp only [h1]
  exact h3 j hj
theorem Qu.lt (h : Qu w B b off cap xs) : b < w.heap.size := by
  obtain ⟨cur, h1, _⟩ := h.blk
  exact (Array.getElem?_eq_some_iff.1 h1).1
theorem Qu.same (h : Qu w B b off cap xs) (hb : w'.heap[b]? = w.heap[b]?) : Qu w' B b off cap xs := by
  obtain ⟨cur, h1, h2, h3⟩ := h.blk
  exact ⟨h.ge, h.le, h.mx, cur, hb.trans h1, h2, h3⟩
theorem Qu.below (h : Qu w B b off cap xs) (hb : Below w.heap.size w w') : Qu w' B b off cap xs := h.same (hb.block b h.lt)
theorem qu_new (w : World) (B : Nat) (hB : B ≤ w.heap.size) (x : Int) : Qu (w.alloc (.cells #[.int .i64 x] 3)) B w.heap.size 0 1 [x] := by
  refine ⟨hB, by simp, by unfold maxLen; omega, #[.int .i64 x], by show (w.heap.push _)[w.heap.size]? = _; exact Array.getElem?_push_size, by simp, fun j hj => ?_⟩
  obtain rfl : j = 0 := by simpa using hj
  simp
theorem Qu.pop {x : Int} (h : Qu w B b off cap (x :: xs)) : Qu w B b (if cap = 1 then off else off + 1) (cap - 1) xs := by
  have hl := h.le
  simp at hl
  obtain ⟨cur, h1, h2, h3⟩ := h.blk
  refine ⟨h.ge, by omega, by have := h.mx; omega, cur, h1, ?_, fun j hj => ?_⟩
  · split <;> omega
  · rw [if_neg (by omega)]
    have := h3 (j + 1) (by simp; omega)
    rw [show off + 1 + j = off + (j + 1) by omega, this]
    simp
end
theorem elem_int11 : Try.prog.elem 27 = 3 := by kernel_rfl
theorem size_int11 : (Try.prog.info? 3).map (·.size) = some 1 := by kernel_rfl
theorem run_size_int11 (w : World) : (sizeOf (Try.prog.elem 27)).run Try.prog w = .ok 1 w := by
  rw [elem_int11]
  cases hq : Try.prog.info? 3 with
  | none => have := size_int11; rw [hq] at this; cases this
  | some i =>
    have hi : i.size = 1 := by have := size_int11; rw [hq] at this; simpa using this
    simp [sizeOf, typeInfo, hq, hi]
theorem slice_pop (b off m cap off' : Nat) (h1 : 1 ≤ m) (h2 : m ≤ cap) (ho : off' = if cap = 1 then off else off + 1) (w : World) :
    (Instr.slice 27 (.slice (some ⟨b, off, none⟩) m cap) (some (.int .i64 1)) none none).run Try.prog w = .ok (.slice (some ⟨b, off', none⟩) (m - 1) (cap - 1)) w := by
  rw [run_slice_l w 27 (some ⟨b, off, none⟩) m cap (by rw [elem_int11]; exact Try.underlying27) .i64 1 (by omega) (by omega), run_size_int11, ho]
  by_cases hc : cap = 1
  · simp [sliced, hc]
  · simp [sliced, hc, Addr.add]
/-- One number more behind a queue. -/
theorem run_append_queue {w : World} {B b off cap : Nat} {xs : List Int} (h : Qu w B b off cap xs) (hB : B ≤ w.heap.size) (x : Int) (hm : xs.length ≤ 1000000) (ad : Addr) (c : Nat) (hx : w.cell? (ad.add 0) = some (.int .i64 x)) (ty : TypeId) :
    ∃ b' off' cap' w', (Builtin.append_ #[27, 27] ty #[.slice (some ⟨b, off, none⟩) xs.length cap, .slice (some ad) 1 c]).run Try.prog w = .ok (.slice (some ⟨b', off', none⟩) (xs.length + 1) cap') w' ∧
      Qu w' B b' off' cap' (xs ++ [x]) ∧ w.grownBy w' (some b) ∧ (b' = b ∨ w.heap.size ≤ b') := by
  obtain ⟨i0, hi, hz0, hz1, hz2⟩ := info_parts info_int
  have hnews : ∀ j u, [Value.int .i64 x][j]? = some u → w.cell? (ad.add j) = some u := fun j u hu => by
    match j, hu with
    | 0, hu => simp at hu; subst hu; exact hx
    | j + 1, hu => simp at hu
  obtain ⟨cur, h1, h2, h3⟩ := h.blk
  by_cases hroom : xs.length + 1 ≤ cap
  · have hcl : (w.cell? ⟨b, off + xs.length, none⟩).isSome = true := by
      unfold World.cell?
      simp only [h1]
      rw [Array.getElem?_eq_getElem (show off + xs.length < cur.size by omega)]
      rfl
    have hfr : w.frozen? ⟨b, off + xs.length, none⟩ = false := by simp [World.frozen?, h1]
    have hr := run_append_room_cells (P := Try.prog) w 27 ty 3 i0 Try.underlying27 hi b off xs.length cap ad 1 c [.int .i64 x] (by rw [hz1]; rfl) hnews (by intro u hu; simp at hu; subst hu; rfl) hroom
      (fun j hj => by obtain rfl : j = 0 := by simpa using hj
                      rw [hz1]; simpa using hcl) (fun j hj => by obtain rfl : j = 0 := by simpa using hj
                                                                 rw [hz1]; simpa using hfr)
    rw [hz1, Nat.mul_one] at hr
    have hset : w.setCells b (off + xs.length) [.int .i64 x] = w.setCell ⟨b, off + xs.length, none⟩ (.int .i64 x) := rfl
    rw [hset] at hr
    refine ⟨b, off, cap, _, hr, ⟨h.ge, by simp; omega, h.mx, cur.setIfInBounds (off + xs.length) (.int .i64 x), ?_, by simpa using h2, fun j hj => ?_⟩, ⟨rfl, rfl, rfl, by simp, fun k _ hk => Below.heap_setCell w _ _ k (fun e => hk (by rw [e]))⟩, .inl rfl⟩
    · exact heap_setCell_same w b (off + xs.length) cur 3 (.int .i64 x) h1
    · by_cases e : j = xs.length
      · subst e
        rw [Array.getElem?_setIfInBounds_self_of_lt (by omega)]
        simp [List.getD]
      · have hj' : j < xs.length := by simp at hj; omega
        rw [Array.getElem?_setIfInBounds_ne (by omega), h3 j hj']
        simp [List.getD, List.getElem?_append_left hj']
  · have hc : xs.length = cap := by have := h.le; omega
    obtain ⟨v', w', hr, ho, hg⟩ := run_append_arg_grows (P := Try.prog) w 27 ty 3 i0 (.int .i64 0) 1 8 Try.underlying27 hi hz0 hz1 hz2 rfl (by decide) ⟨b, off, none⟩ xs.length cap (xs.map (Value.int .i64)) (by simp)
      (fun j u hu => by
        have hj : j < xs.length := by
          by_cases hj : j < xs.length
          · exact hj
          · rw [List.getElem?_eq_none (by simp; omega)] at hu; cases hu
        have e : (⟨b, off, none⟩ : Addr).add j = ⟨b, off + j, none⟩ := by unfold Addr.add; split <;> simp_all
        rw [e, h.cell j hj]
        rw [List.getElem?_map, List.getElem?_eq_getElem hj] at hu
        simp at hu
        rw [← hu]
        simp [List.getD, List.getElem?_eq_getElem hj]) ad 1 c [.int .i64 x] rfl hnews (by omega) (by unfold maxLen; omega) (by omega)
    rcases ho.2 with ⟨_, h0⟩ | ⟨g, cap', cur', hv, hbg, hh, hle, hmx, hsz, htk⟩
    · omega
    · subst hv
      refine ⟨g, 0, cap', w', hr, ⟨Nat.le_trans hB hbg, by simp; omega, hmx, cur', hh, by omega, fun j hj => ?_⟩, ⟨hg.os, hg.tape, hg.output, hg.size, fun k hk _ => hg.block k hk (by simp)⟩, .inr hbg⟩
      have hj' : j < xs.length + 1 := by simpa using hj
      have h5 : (cur'.toList.take ((xs.length + 1) * 1))[j]? = (xs.map (Value.int .i64) ++ [Value.int .i64 x])[j]? := by rw [htk]
      rw [List.getElem?_take_of_lt (by omega)] at h5
      rw [Nat.zero_add, ← Array.getElem?_toList, h5]
      by_cases e : j = xs.length
      · subst e
        rw [List.getElem?_append_right (by simp)]
        simp [List.getD]
      · rw [List.getElem?_append_left (by simp; omega)]
        simp [List.getD, List.getElem?_append_left (show j < xs.length by omega), List.getElem?_eq_getElem (show j < xs.length by omega)]
/-- At the operation, for the walk. -/
theorem wpList_append_queue {ops : Array Oper} {rest : List Oper} {o : Oper} {a : Act} {Q : Exit → Act → World → Prop} {w : World} (hgd : o.guard = none) (s x : Operand)
    (ho : o.op = .call { callee := .builtin .append, args := #[s, x], argTypes := #[27, 27] })
    (B b off cap : Nat) (xs : List Int) (h : Qu w B b off cap xs) (hB : B ≤ w.heap.size) (z : Int) (hm : xs.length ≤ 1000000) (n : Nat) (hn : xs.length = n) (hs : a.eval s = .slice (some ⟨b, off, none⟩) n cap) (ad : Addr) (c : Nat) (hx : a.eval x = .slice (some ad) 1 c) (hz : w.cell? (ad.add 0) = some (.int .i64 z))
    (k : ∀ b' off' cap' w', Qu w' B b' off' cap' (xs ++ [z]) → w.grownBy w' (some b) → (b' = b ∨ w.heap.size ≤ b') → wpList Try.prog ops Q rest (a.put o.dst (.slice (some ⟨b', off', none⟩) (n + 1) cap')) w') : wpList Try.prog ops Q (o :: rest) a w := by
  subst hn
  refine wpList_plain hgd fun K hK => ?_
  obtain ⟨b', off', cap', w', hr, h1, h2, h3⟩ := run_append_queue h hB z hm ad c hz o.type
  unfold Oper.wp execOp
  simp only [ho, resolve, invoke, builtin, Sem.run_bind, Sem.run_pure, Result.andThen_ok, List.map_toArray, List.map_cons, List.map_nil, hs, hx, hr]
  exact hK _ _ (k b' off' cap' w' h1 h2 h3)
end Go.Proofs.Ytkfnejiiancmhad.Own

namespace Go.Proofs.Ytkfnejiiancmhad.Own
open Go.RowKit L1
set_option linter.unusedVariables false

set_option maxRecDepth 100000 in
set_option maxHeartbeats 1000000 in
theorem l1Has_any (a : Option Addr) (xs : List Int) (n cap : Nat) (o : Int) (w : World) (hn : xs.length = n) (hs : Sl w a xs) (hn2 : n ≤ 1048576) (bb : Bool) (hbb : bb = true ↔ o ∈ xs) :
    Calls Try.prog 78 #[.slice a n cap, .int .i64 o] w fun e w' => e = .returned (.bool bb) ∧ Below w.heap.size w w' := by
  have HS := hide hs
  have HN := hide hn
  have HBB := hide hbb
  clear hs hn hbb
  go_enter Try.func78, Try.ntmps78
  go_wp2
  go_loop [9] (fun i => ∃ k : Nat, k ≤ n ∧ i = .int .i64 k ∧ Hid (∀ j, j < k → xs.getD j 0 ≠ o)) (fun i => n - (intOf i).toNat)
  case atStart => exact ⟨0, Nat.zero_le _, rfl, fun j hj => absurd hj (Nat.not_lt_zero _)⟩
  case round =>
    obtain ⟨k, hk, rfl, HJ⟩ := hrel
    by_cases hlt : k < n
    · obtain ⟨b, off, rfl, hc⟩ := HS.out k (by rw [HN.out]; exact hlt)
      have hltI : (k : Int) < (n : Int) := by omega
      obtain ⟨x, hx⟩ : ∃ x, x = xs.getD k 0 := ⟨_, rfl⟩
      rw [← hx] at hc
      have HX := hide hx.symm
      clear hx
      by_cases hle : x = o
      · subst hle
        have hmem : x ∈ xs := by
          have h1 := HX.out
          have h2 : k < xs.length := by rw [HN.out]; exact hlt
          simp only [List.getD, List.getElem?_eq_getElem h2, Option.getD_some] at h1
          rw [← h1]
          exact List.getElem_mem h2
        have HM := hide (HBB.out.2 hmem)
        clear hmem
        go_wp2
        go_ret
        exact ⟨by rw [HM.out]; rfl, Below.refl _ _⟩
      · have hle' : (x == o) = false := by simpa using hle
        have HLE := hide hle
        clear hle
        go_wp2
        go_round
        case rel =>
          refine ⟨k + 1, by omega, by go_num, ?_⟩
          intro j hj
          by_cases e : j = k
          · subst e; rw [HX.out]; exact HLE.out
          · exact HJ.out j (by omega)
        case measure => simp [intOf]; omega
    · have hltI : ¬ (k : Int) < (n : Int) := by omega
      have hmem : o ∉ xs := fun h => by
        obtain ⟨j, hj, e⟩ := List.getElem_of_mem h
        refine HJ.out j (by rw [HN.out] at hj; omega) ?_
        simp only [List.getD, List.getElem?_eq_getElem hj, Option.getD_some]
        exact e
      have HM := hide (bool_noT HBB.out hmem)
      clear hmem
      go_wp2
      go_ret
      exact ⟨by rw [HM.out]; rfl, Below.refl _ _⟩
end Go.Proofs.Ytkfnejiiancmhad.Own

namespace Go.Proofs.Ytkfnejiiancmhad.L4
open Go.RowKit L1
set_option linter.unusedVariables false

theorem own_belowT {w w' : World} {base n : Nat} {t : TypeId} {c : Nat} {v : Value} {ys : List Value} (h : w.ownsRow base t c v n ys) (hb : Below w.heap.size w w') : w'.ownsRow base t c v n ys := by
  refine ⟨h.1, ?_⟩
  rcases h.2 with h0 | ⟨g, cap, cur, rfl, hbg, hg, r⟩
  · exact .inl h0
  · exact .inr ⟨g, cap, cur, rfl, hbg, by rw [hb.block g (Array.getElem?_eq_some_iff.1 hg).1]; exact hg, r⟩
theorem own_baseT {w : World} {b c n size : Nat} {e : TypeId} {v : Value} {xs : List Value} (h : w.ownsRow c e size v n xs) (hbc : b ≤ c) : w.ownsRow b e size v n xs := by
  refine ⟨h.1, ?_⟩
  rcases h.2 with h0 | ⟨g, cap, cur, hv, hg, r⟩
  · exact .inl h0
  · exact .inr ⟨g, cap, cur, hv, Nat.le_trans hbc hg, r⟩
theorem own_some {w : World} {base n c : Nat} {t : TypeId} {v : Value} {xs : List Value} (h : w.ownsRow base t c v n xs) (hv : ¬ v = .slice none 0 0) : ∃ g cap, v = .slice (some ⟨g, 0, none⟩) n cap ∧ n ≤ cap ∧ cap ≤ maxLen := by
  rcases h.2 with ⟨hv', h0⟩ | ⟨g, cap, cur, hv', _, _, hc, hm, _⟩
  · exact absurd hv' hv
  · exact ⟨g, cap, hv', hc, hm⟩
theorem own_shapeT {w : World} {base n c : Nat} {t : TypeId} {v : Value} {xs : List Value} (h : w.ownsRow base t c v n xs) : ∃ a cap, v = .slice a n cap := by
  rcases h.2 with ⟨hv, h0⟩ | ⟨g, cap, cur, hv, _⟩
  · exact ⟨none, 0, by rw [hv, h0]⟩
  · exact ⟨_, cap, hv⟩
theorem bool_noT {b : Bool} {p : Prop} (h : b = true ↔ p) (hp : ¬ p) : b = false := by
  cases b with
  | false => rfl
  | true => exact absurd (h.1 rfl) hp
theorem own_neG {w : World} {base n cap g c : Nat} {t : TypeId} {a : Option Addr} {xs : List Value} (h : w.ownsRow base t c (.slice a n cap) n xs) (hg : g < base) : (Value.slice a n cap).ownBlock = none ∨ (Value.slice a n cap).ownBlock ≠ some g := by
  cases a with
  | none => exact .inl rfl
  | some x =>
    refine .inr fun e => ?_
    have := (h.lt g e).1
    omega
theorem sl_baseI {w w' : World} {a : Option Addr} {xs : List Int} {base : Nat} (h : Sl w a xs) (hb : Below base w w') (hlt : ∀ x, a = some x → x.block < base) : Sl w' a xs := fun i hi => by
  obtain ⟨b, off, ha, hc⟩ := h i hi
  exact ⟨b, off, ha, (hb.cell (p := ⟨b, off + i, none⟩) (hlt ⟨b, off, none⟩ ha)).trans hc⟩
theorem own_slI {w : World} {base n cap : Nat} {a : Option Addr} {xs : List Int} (h : w.ownsRow base 3 1 (.slice a n cap) n (xs.map (Value.int .i64))) : Sl w a xs := by
  obtain ⟨b, q, e, s, _⟩ := own_form h
  cases e
  exact s
theorem cell_one_new (w : World) (p : Value) (t : TypeId) : ∀ j u, [p][j]? = some u → (w.alloc (.cells #[p] t)).cell? ((⟨w.heap.size, 0, none⟩ : Addr).add j) = some u := by
  intro j u h
  rw [addr_add]
  match j, h with
  | 0, h => simp at h; subst h; simp
  | j + 1, h => simp at h
theorem ints_one (xs : List Int) : ∀ u ∈ xs.map (Value.int .i64), u.oneCell' = true := fun u hu => by
  obtain ⟨x, _, rfl⟩ := List.mem_map.1 hu
  rfl
theorem add_at (b off i : Nat) : (⟨b, off, none⟩ : Addr).add i = ⟨b, off + i, none⟩ := by unfold Addr.add; split <;> simp_all
/-- What lies from a place on. -/
theorem sl_seg {w : World} {b off : Nat} {xs : List Int} (h : Sl w (some ⟨b, off, none⟩) xs) (f m : Nat) : ∀ j u, (((xs.drop f).take m).map (Value.int .i64))[j]? = some u → w.cell? ((⟨b, off + f, none⟩ : Addr).add j) = some u := fun j u hu => by
  rw [add_at]
  rw [List.getElem?_map, List.getElem?_take] at hu
  split at hu
  · rw [List.getElem?_drop] at hu
    by_cases hj : f + j < xs.length
    · have := h.at (f + j) hj
      rw [List.getElem?_eq_getElem hj] at hu
      simp only [Option.map_some, Option.some.injEq] at hu
      rw [← hu, Nat.add_assoc, this, getD_eq hj]
    · rw [List.getElem?_eq_none (by omega)] at hu
      simp at hu
  · simp at hu
end Go.Proofs.Ytkfnejiiancmhad.L4

namespace Go.Proofs.Ytkfnejiiancmhad.L4
open Go.RowKit L1
set_option linter.unusedVariables false

/-- Ints that the caller owns. -/
def OwnL (w : World) (B : Nat) (v : Value) (xs : List Int) : Prop := w.ownsRow B 3 1 v xs.length (xs.map (Value.int .i64))
theorem int_take {w : World} {g : Nat} {xs : List Int} {base n cap : Nat} (h : w.ownsRow base 3 1 (.slice (some ⟨g, 0, none⟩) n cap) n (xs.map (Value.int .i64))) (k : Nat) : ∀ j u, ((xs.take k).map (Value.int .i64))[j]? = some u → w.cell? ((⟨g, 0, none⟩ : Addr).add j) = some u := fun j u hu => by
  refine h.cells (g := g) rfl j u ?_
  rw [List.getElem?_map] at hu ⊢
  rw [List.getElem?_take] at hu
  split at hu
  · exact hu
  · simp at hu
theorem int_drop {w : World} {g : Nat} {xs : List Int} {base n cap : Nat} (h : w.ownsRow base 3 1 (.slice (some ⟨g, 0, none⟩) n cap) n (xs.map (Value.int .i64))) (k : Nat) : ∀ j u, ((xs.drop k).map (Value.int .i64))[j]? = some u → w.cell? ((⟨g, k, none⟩ : Addr).add j) = some u := fun j u hu => by
  have := h.cells (g := g) rfl (k + j) u (by
    rw [List.getElem?_map] at hu ⊢
    rw [List.getElem?_drop] at hu
    exact hu)
  rw [addr_add] at this
  have e0 : (⟨g, k, none⟩ : Addr).add j = ⟨g, k + j, none⟩ := by unfold Addr.add; split <;> simp_all
  rw [e0]
  exact this

set_option maxRecDepth 100000 in
set_option maxHeartbeats 2000000 in
theorem putNil (x : Int) (B : Nat) (w : World) (hB : B ≤ w.heap.size) :
    Calls Try.prog 109 #[.slice none 0 0, .int .i64 x] w fun e w' => ∃ v, e = .returned v ∧ OwnL w' B v (put [] x) ∧ Below w.heap.size w w' := by
  obtain ⟨i1, hi1, hy0, hy1, hy2⟩ := info_parts info_int
  go_enter Try.func109, Try.ntmps109
  go_wp2
  go_loop [5] (fun kv => kv = .int .i64 0) (fun _ => 0)
  case atStart => rfl
  case round =>
    subst hrel
    go_wp2_with (first
      | (at_builtin; refine wpList_append_own _ rfl _ _ 27 rfl B 3 i1 (.int .i64 0) 1 8 Try.underlying27 hi1 hy0 hy1 hy2 rfl (by decide) (.slice none 0 0) 0 [] rfl (World.ownsRow_nil _ _ _ _) ⟨w.heap.size, 0, none⟩ 1 1 [.int .i64 x] rfl rfl (cell_one_new _ _ _) (by intro u hu; simp at hu; subst hu; rfl) (by unfold maxLen; omega) (by omega) (by simp; omega) ?_)
      | go_in)
    intro v6 w6 hown6 hgrow6 hnil6
    have hb6 : Below w.heap.size w w6 := ((Below.refl _ _).alloc (Nat.le_refl _) _).grown hgrow6 (by simp) (fun g hg => by cases hg)
    obtain ⟨g6, c6, rfl, hc6, _⟩ := own_some hown6 (by first | exact hnil6 | (intro e; have := (hnil6.1 e).2; omega))
    have O6 : Hid (OwnL w6 B (.slice (some ⟨g6, 0, none⟩) 1 c6) (put [] x)) := by
      refine hide ?_; unfold OwnL; simpa [put, lp] using hown6
    have B6 := hide hb6
    have hc6I : (1 : Int) ≤ (c6 : Int) := by omega
    clear hown6 hgrow6 hnil6 hb6
    go_wp2
    try go_simp
    try go_wp2
    go_ret
    exact ⟨_, rfl, O6.out, B6.out⟩
set_option maxRecDepth 100000 in
set_option maxHeartbeats 4000000 in
theorem putSome (g n cap : Nat) (xs : List Int) (x : Int) (B : Nat) (w : World) (hB : B ≤ w.heap.size) (hn : n ≤ 4000) (hx : xs.length = n) (ho : w.ownsRow B 3 1 (.slice (some ⟨g, 0, none⟩) n cap) n (xs.map (Value.int .i64))) :
    Calls Try.prog 109 #[.slice (some ⟨g, 0, none⟩) n cap, .int .i64 x] w fun e w' => ∃ v, e = .returned v ∧ OwnL w' B v (put xs x) ∧ Below w.heap.size w w' := by
  obtain ⟨i1, hi1, hy0, hy1, hy2⟩ := info_parts info_int
  obtain ⟨hcap1, hcap2⟩ : n ≤ cap ∧ cap ≤ maxLen := by
    obtain ⟨g', c', e, h1, h2⟩ := own_some ho (fun e => by cases e)
    cases e
    exact ⟨h1, h2⟩
  unfold maxLen at hcap2
  have hcapI : (cap : Int) ≤ 9223372036854775807 := by omega
  have hgz := (ho.lt g rfl).2
  have SAME : Hid (OwnL w B (.slice (some ⟨g, 0, none⟩) n cap) xs) := by unfold OwnL; rw [hx]; exact ho
  have HOW := hide ho
  have HXL := hide hx
  clear ho hx
  go_enter Try.func109, Try.ntmps109
  go_wp2
  go_loop [5] (fun kv => ∃ k : Nat, k ≤ n ∧ kv = .int .i64 k ∧ Hid (∀ j, j < k → xs.getD j 0 < x)) (fun kv => n - (intOf kv).toNat)
  case atStart => exact ⟨0, Nat.zero_le _, rfl, fun j hj => absurd hj (Nat.not_lt_zero _)⟩
  case round =>
    obtain ⟨k, hk, rfl, HJ⟩ := hrel
    by_cases hkl : k < n
    · have hklI : (k : Int) < (n : Int) := by omega
      have hc := HOW.out.cellAt k (by omega)
      obtain ⟨y, HY, hy⟩ : ∃ y : Int, Hid (xs.getD k 0 = y) ∧ w.cell? ⟨g, k, none⟩ = some (.int .i64 y) := by
        refine ⟨xs.getD k 0, rfl, hc.trans ?_⟩
        have := HXL.out
        rw [List.getElem?_map, List.getElem?_eq_getElem (by omega)]
        simp [List.getD, List.getElem?_eq_getElem (show k < xs.length by omega)]
      clear hc
      by_cases hyx : y < x
      · go_wp2
        go_round
        case rel =>
          refine ⟨k + 1, by omega, by go_num, ?_⟩
          intro j hj
          by_cases e : j = k
          · subst e; rw [HY.out]; exact hyx
          · exact HJ.out j (by omega)
        case measure => simp [intOf]; omega
      · by_cases hxe : y = x
        · subst hxe
          have hput : put xs y = xs := by
            have e := lp_at (n := y) xs k (by rw [HXL.out]; exact hk) HJ.out (fun _ => by rw [HY.out]; exact hyx)
            unfold put
            rw [e, if_pos ⟨by rw [HXL.out]; exact hkl, HY.out⟩]
          have HP := hide hput
          clear hput
          go_wp2
          go_ret
          exact ⟨_, rfl, by rw [HP.out]; exact SAME.out, Below.refl _ _⟩
        · have hxe' : (y == x) = false := by simpa using hxe
          have hput : put xs x = xs.take k ++ x :: xs.drop k := by
            have e := lp_at (n := x) xs k (by rw [HXL.out]; exact hk) HJ.out (fun _ => by rw [HY.out]; exact hyx)
            unfold put
            rw [e, if_neg (fun h => hxe (by rw [← HY.out]; exact h.2))]
          have HP := hide hput
          clear hxe hput
          have hTL : ((xs.take k).map (Value.int .i64)).length = k * 1 := by have := HXL.out; simp; omega
          have hDL : ((xs.drop k).map (Value.int .i64)).length = (n - k) * 1 := by have := HXL.out; simp; omega
          have HTL := hide hTL
          have HDL := hide hDL
          have HTC := hide (int_take HOW.out k)
          have HDC := hide (int_drop HOW.out k)
          have hkc : (k : Int) ≤ (cap : Int) := by omega
          have hkN : (k : Int) ≤ (n : Int) := by omega
          clear hTL hDL
          go_wp2_with (first
            | (at_builtin; refine wpList_append_own _ rfl _ _ 27 rfl w.heap.size 3 i1 (.int .i64 0) 1 8 Try.underlying27 hi1 hy0 hy1 hy2 rfl (by decide) (.slice none 0 0) 0 [] rfl (World.ownsRow_nil _ _ _ _) ⟨g, 0, none⟩ k cap ((xs.take k).map (Value.int .i64)) rfl HTL.out HTC.out (ints_one _) (by unfold maxLen; omega) (by omega) (Nat.le_refl _) ?_)
            | go_in)
          intro v4 w4 hown4 hgrow4 hnil4
          have hb4 : Below w.heap.size w w4 := (Below.refl _ _).grown hgrow4 (Nat.le_refl _) (fun g hg => by cases hg)
          try simp only [List.nil_append, Nat.zero_add] at hown4
          obtain ⟨a4, c4, rfl⟩ := own_shapeT hown4
          have O4 := hide hown4
          have B4 := hide hb4
          have hz4 := hb4.size
          clear hown4 hgrow4 hnil4 hb4
          go_wp2_with (first
            | (at_builtin; refine wpList_append_own _ rfl _ _ 27 rfl w.heap.size 3 i1 (.int .i64 0) 1 8 Try.underlying27 hi1 hy0 hy1 hy2 rfl (by decide) _ _ _ rfl (O4.out.alloc _) ⟨w4.heap.size, 0, none⟩ 1 1 [.int .i64 x] rfl rfl (cell_one_new _ _ _) (by intro u hu; simp at hu; subst hu; rfl) (by unfold maxLen; omega) (by omega) (by simp; omega) ?_)
            | go_in)
          intro v5 w5 hown5 hgrow5 hnil5
          have hb5 : Below w.heap.size w w5 := B4.out.trans (((Below.refl _ _).alloc hz4 _).grown hgrow5 (by simp; omega) (fun g hg => (O4.out.lt g hg).1))
          obtain ⟨g5, c5, rfl, hc5, _⟩ := own_some hown5 (by first | exact hnil5 | (intro e; have := (hnil5.1 e).2; omega))
          have O5 := hide hown5
          have B5 := hide hb5
          have hz5 := hb5.size
          clear hown5 hgrow5 hnil5 hb5
          by_cases hko : k < cap
          · have hkoI : (k : Int) < (cap : Int) := by omega
            go_wp2_with (first
              | (at_builtin; refine wpList_append_own _ rfl _ _ 27 rfl w.heap.size 3 i1 (.int .i64 0) 1 8 Try.underlying27 hi1 hy0 hy1 hy2 rfl (by decide) _ _ _ rfl O5.out ⟨g, k, none⟩ (n - k) (cap - k) ((xs.drop k).map (Value.int .i64)) rfl HDL.out (fun j u h => (B5.out.cell (p := (⟨g, k, none⟩ : Addr).add j) (by have := hgz; unfold Addr.add; split <;> exact this)).trans (HDC.out j u h)) (ints_one _) (by unfold maxLen; omega) (by omega) hz5 ?_)
              | go_in)
            intro v6 w6 hown6 hgrow6 hnil6
            have hb6 : Below w.heap.size w w6 := B5.out.trans ((Below.refl _ _).grown hgrow6 hz5 (fun g hg => (O5.out.lt g hg).1))
            have O6 : Hid (OwnL w6 B v6 (put xs x)) := by
              refine hide ?_; rw [HP.out]; unfold OwnL
              · have e1 : (xs.take k ++ x :: xs.drop k).length = k + 1 + (n - k) := by have := HXL.out; simp; omega
                rw [e1]
                have := own_baseT hown6 hB
                simpa using this
            have B6 := hide hb6
            clear hown6 hgrow6 hnil6 hb6
            go_wp2
            go_ret
            exact ⟨_, rfl, O6.out, B6.out⟩
          · obtain rfl : k = cap := by omega
            have hnk : n = k := by omega
            have O6 : Hid (OwnL w5 B (.slice (some ⟨g5, 0, none⟩) (k + 1) c5) (put xs x)) := by
              refine hide ?_; rw [HP.out, show xs.drop k = [] from List.drop_of_length_le (by have := HXL.out; omega)]; unfold OwnL
              · have e1 : (xs.take k ++ [x]).length = k + 1 := by have := HXL.out; simp; omega
                rw [e1]
                have := own_baseT O5.out hB
                simpa using this
            subst hnk
            have hc5I : ((n : Int) + 1) ≤ (c5 : Int) := by omega
            go_wp2
            try go_simp
            try go_wp2
            go_ret
            exact ⟨_, rfl, O6.out, B5.out⟩
    · have hklI : ¬ (k : Int) < (n : Int) := by omega
      have hput : put xs x = xs.take k ++ x :: xs.drop k := by
        have e := lp_at (n := x) xs k (by rw [HXL.out]; exact hk) HJ.out (fun h => by rw [HXL.out] at h; omega)
        unfold put
        rw [e, if_neg (fun h => by have := h.1; rw [HXL.out] at this; omega)]
      have HP := hide hput
      clear hput
      have hTL : ((xs.take k).map (Value.int .i64)).length = k * 1 := by have := HXL.out; simp; omega
      have hDL : ((xs.drop k).map (Value.int .i64)).length = (n - k) * 1 := by have := HXL.out; simp; omega
      have HTL := hide hTL
      have HDL := hide hDL
      have HTC := hide (int_take HOW.out k)
      have HDC := hide (int_drop HOW.out k)
      have hkc : (k : Int) ≤ (cap : Int) := by omega
      have hkN : (k : Int) ≤ (n : Int) := by omega
      clear hTL hDL
      go_wp2_with (first
        | (at_builtin; refine wpList_append_own _ rfl _ _ 27 rfl w.heap.size 3 i1 (.int .i64 0) 1 8 Try.underlying27 hi1 hy0 hy1 hy2 rfl (by decide) (.slice none 0 0) 0 [] rfl (World.ownsRow_nil _ _ _ _) ⟨g, 0, none⟩ k cap ((xs.take k).map (Value.int .i64)) rfl HTL.out HTC.out (ints_one _) (by unfold maxLen; omega) (by omega) (Nat.le_refl _) ?_)
        | go_in)
      intro v4 w4 hown4 hgrow4 hnil4
      have hb4 : Below w.heap.size w w4 := (Below.refl _ _).grown hgrow4 (Nat.le_refl _) (fun g hg => by cases hg)
      try simp only [List.nil_append, Nat.zero_add] at hown4
      obtain ⟨a4, c4, rfl⟩ := own_shapeT hown4
      have O4 := hide hown4
      have B4 := hide hb4
      have hz4 := hb4.size
      clear hown4 hgrow4 hnil4 hb4
      go_wp2_with (first
        | (at_builtin; refine wpList_append_own _ rfl _ _ 27 rfl w.heap.size 3 i1 (.int .i64 0) 1 8 Try.underlying27 hi1 hy0 hy1 hy2 rfl (by decide) _ _ _ rfl (O4.out.alloc _) ⟨w4.heap.size, 0, none⟩ 1 1 [.int .i64 x] rfl rfl (cell_one_new _ _ _) (by intro u hu; simp at hu; subst hu; rfl) (by unfold maxLen; omega) (by omega) (by simp; omega) ?_)
        | go_in)
      intro v5 w5 hown5 hgrow5 hnil5
      have hb5 : Below w.heap.size w w5 := B4.out.trans (((Below.refl _ _).alloc hz4 _).grown hgrow5 (by simp; omega) (fun g hg => (O4.out.lt g hg).1))
      obtain ⟨g5, c5, rfl, hc5, _⟩ := own_some hown5 (by first | exact hnil5 | (intro e; have := (hnil5.1 e).2; omega))
      have O5 := hide hown5
      have B5 := hide hb5
      have hz5 := hb5.size
      clear hown5 hgrow5 hnil5 hb5
      by_cases hko : k < cap
      · have hkoI : (k : Int) < (cap : Int) := by omega
        go_wp2_with (first
          | (at_builtin; refine wpList_append_own _ rfl _ _ 27 rfl w.heap.size 3 i1 (.int .i64 0) 1 8 Try.underlying27 hi1 hy0 hy1 hy2 rfl (by decide) _ _ _ rfl O5.out ⟨g, k, none⟩ (n - k) (cap - k) ((xs.drop k).map (Value.int .i64)) rfl HDL.out (fun j u h => (B5.out.cell (p := (⟨g, k, none⟩ : Addr).add j) (by have := hgz; unfold Addr.add; split <;> exact this)).trans (HDC.out j u h)) (ints_one _) (by unfold maxLen; omega) (by omega) hz5 ?_)
          | go_in)
        intro v6 w6 hown6 hgrow6 hnil6
        have hb6 : Below w.heap.size w w6 := B5.out.trans ((Below.refl _ _).grown hgrow6 hz5 (fun g hg => (O5.out.lt g hg).1))
        have O6 : Hid (OwnL w6 B v6 (put xs x)) := by
          refine hide ?_; rw [HP.out]; unfold OwnL
          · have e1 : (xs.take k ++ x :: xs.drop k).length = k + 1 + (n - k) := by have := HXL.out; simp; omega
            rw [e1]
            have := own_baseT hown6 hB
            simpa using this
        have B6 := hide hb6
        clear hown6 hgrow6 hnil6 hb6
        go_wp2
        go_ret
        exact ⟨_, rfl, O6.out, B6.out⟩
      · obtain rfl : k = cap := by omega
        have hnk : n = k := by omega
        have O6 : Hid (OwnL w5 B (.slice (some ⟨g5, 0, none⟩) (k + 1) c5) (put xs x)) := by
          refine hide ?_; rw [HP.out, show xs.drop k = [] from List.drop_of_length_le (by have := HXL.out; omega)]; unfold OwnL
          · have e1 : (xs.take k ++ [x]).length = k + 1 := by have := HXL.out; simp; omega
            rw [e1]
            have := own_baseT O5.out hB
            simpa using this
        subst hnk
        have hc5I : ((n : Int) + 1) ≤ (c5 : Int) := by omega
        go_wp2
        try go_simp
        try go_wp2
        go_ret
        exact ⟨_, rfl, O6.out, B5.out⟩
theorem put_any (v : Value) (xs : List Int) (x : Int) (B : Nat) (w : World) (hB : B ≤ w.heap.size) (hm : xs.length ≤ 4000) (h : OwnL w B v xs) :
    Calls Try.prog 109 #[v, .int .i64 x] w fun e w' => ∃ v', e = .returned v' ∧ OwnL w' B v' (put xs x) ∧ Below w.heap.size w w' := by
  rcases h.2 with ⟨hv, h0⟩ | ⟨g, cap, cur, hv, _⟩
  · subst hv
    obtain rfl : xs = [] := List.eq_nil_of_length_eq_zero h0
    exact putNil x B w hB
  · subst hv
    exact putSome g xs.length cap xs x B w hB hm rfl h
end Go.Proofs.Ytkfnejiiancmhad.L4

namespace Go.Proofs.Ytkfnejiiancmhad.L4
open Go.RowKit L1
set_option linter.unusedVariables false

set_option maxRecDepth 100000 in
set_option maxHeartbeats 4000000 in
theorem putSomeN (B0 : Nat) (g n cap : Nat) (xs : List Int) (x : Int) (B : Nat) (w : World) (hB : B ≤ w.heap.size) (hn : n ≤ 4000) (hx : xs.length = n) (hnx : x ∉ xs) (ho : w.ownsRow B0 3 1 (.slice (some ⟨g, 0, none⟩) n cap) n (xs.map (Value.int .i64))) :
    Calls Try.prog 109 #[.slice (some ⟨g, 0, none⟩) n cap, .int .i64 x] w fun e w' => ∃ v, e = .returned v ∧ OwnL w' B v (put xs x) ∧ Below w.heap.size w w' := by
  obtain ⟨i1, hi1, hy0, hy1, hy2⟩ := info_parts info_int
  obtain ⟨hcap1, hcap2⟩ : n ≤ cap ∧ cap ≤ maxLen := by
    obtain ⟨g', c', e, h1, h2⟩ := own_some ho (fun e => by cases e)
    cases e
    exact ⟨h1, h2⟩
  unfold maxLen at hcap2
  have hcapI : (cap : Int) ≤ 9223372036854775807 := by omega
  have hgz := (ho.lt g rfl).2
  have HNX := hide hnx
  have HOW := hide ho
  have HXL := hide hx
  clear ho hx hnx
  go_enter Try.func109, Try.ntmps109
  go_wp2
  go_loop [5] (fun kv => ∃ k : Nat, k ≤ n ∧ kv = .int .i64 k ∧ Hid (∀ j, j < k → xs.getD j 0 < x)) (fun kv => n - (intOf kv).toNat)
  case atStart => exact ⟨0, Nat.zero_le _, rfl, fun j hj => absurd hj (Nat.not_lt_zero _)⟩
  case round =>
    obtain ⟨k, hk, rfl, HJ⟩ := hrel
    by_cases hkl : k < n
    · have hklI : (k : Int) < (n : Int) := by omega
      have hc := HOW.out.cellAt k (by omega)
      obtain ⟨y, HY, hy⟩ : ∃ y : Int, Hid (xs.getD k 0 = y) ∧ w.cell? ⟨g, k, none⟩ = some (.int .i64 y) := by
        refine ⟨xs.getD k 0, rfl, hc.trans ?_⟩
        have := HXL.out
        rw [List.getElem?_map, List.getElem?_eq_getElem (by omega)]
        simp [List.getD, List.getElem?_eq_getElem (show k < xs.length by omega)]
      clear hc
      by_cases hyx : y < x
      · go_wp2
        go_round
        case rel =>
          refine ⟨k + 1, by omega, by go_num, ?_⟩
          intro j hj
          by_cases e : j = k
          · subst e; rw [HY.out]; exact hyx
          · exact HJ.out j (by omega)
        case measure => simp [intOf]; omega
      · by_cases hxe : y = x
        · exact absurd (by rw [← hxe, ← HY.out]; exact getD_mem (by rw [HXL.out]; exact hkl)) HNX.out
        · have hxe' : (y == x) = false := by simpa using hxe
          have hput : put xs x = xs.take k ++ x :: xs.drop k := by
            have e := lp_at (n := x) xs k (by rw [HXL.out]; exact hk) HJ.out (fun _ => by rw [HY.out]; exact hyx)
            unfold put
            rw [e, if_neg (fun h => hxe (by rw [← HY.out]; exact h.2))]
          have HP := hide hput
          clear hxe hput
          have hTL : ((xs.take k).map (Value.int .i64)).length = k * 1 := by have := HXL.out; simp; omega
          have hDL : ((xs.drop k).map (Value.int .i64)).length = (n - k) * 1 := by have := HXL.out; simp; omega
          have HTL := hide hTL
          have HDL := hide hDL
          have HTC := hide (int_take HOW.out k)
          have HDC := hide (int_drop HOW.out k)
          have hkc : (k : Int) ≤ (cap : Int) := by omega
          have hkN : (k : Int) ≤ (n : Int) := by omega
          clear hTL hDL
          go_wp2_with (first
            | (at_builtin; refine wpList_append_own _ rfl _ _ 27 rfl w.heap.size 3 i1 (.int .i64 0) 1 8 Try.underlying27 hi1 hy0 hy1 hy2 rfl (by decide) (.slice none 0 0) 0 [] rfl (World.ownsRow_nil _ _ _ _) ⟨g, 0, none⟩ k cap ((xs.take k).map (Value.int .i64)) rfl HTL.out HTC.out (ints_one _) (by unfold maxLen; omega) (by omega) (Nat.le_refl _) ?_)
            | go_in)
          intro v4 w4 hown4 hgrow4 hnil4
          have hb4 : Below w.heap.size w w4 := (Below.refl _ _).grown hgrow4 (Nat.le_refl _) (fun g hg => by cases hg)
          try simp only [List.nil_append, Nat.zero_add] at hown4
          obtain ⟨a4, c4, rfl⟩ := own_shapeT hown4
          have O4 := hide hown4
          have B4 := hide hb4
          have hz4 := hb4.size
          clear hown4 hgrow4 hnil4 hb4
          go_wp2_with (first
            | (at_builtin; refine wpList_append_own _ rfl _ _ 27 rfl w.heap.size 3 i1 (.int .i64 0) 1 8 Try.underlying27 hi1 hy0 hy1 hy2 rfl (by decide) _ _ _ rfl (O4.out.alloc _) ⟨w4.heap.size, 0, none⟩ 1 1 [.int .i64 x] rfl rfl (cell_one_new _ _ _) (by intro u hu; simp at hu; subst hu; rfl) (by unfold maxLen; omega) (by omega) (by simp; omega) ?_)
            | go_in)
          intro v5 w5 hown5 hgrow5 hnil5
          have hb5 : Below w.heap.size w w5 := B4.out.trans (((Below.refl _ _).alloc hz4 _).grown hgrow5 (by simp; omega) (fun g hg => (O4.out.lt g hg).1))
          obtain ⟨g5, c5, rfl, hc5, _⟩ := own_some hown5 (by first | exact hnil5 | (intro e; have := (hnil5.1 e).2; omega))
          have O5 := hide hown5
          have B5 := hide hb5
          have hz5 := hb5.size
          clear hown5 hgrow5 hnil5 hb5
          by_cases hko : k < cap
          · have hkoI : (k : Int) < (cap : Int) := by omega
            go_wp2_with (first
              | (at_builtin; refine wpList_append_own _ rfl _ _ 27 rfl w.heap.size 3 i1 (.int .i64 0) 1 8 Try.underlying27 hi1 hy0 hy1 hy2 rfl (by decide) _ _ _ rfl O5.out ⟨g, k, none⟩ (n - k) (cap - k) ((xs.drop k).map (Value.int .i64)) rfl HDL.out (fun j u h => (B5.out.cell (p := (⟨g, k, none⟩ : Addr).add j) (by have := hgz; unfold Addr.add; split <;> exact this)).trans (HDC.out j u h)) (ints_one _) (by unfold maxLen; omega) (by omega) hz5 ?_)
              | go_in)
            intro v6 w6 hown6 hgrow6 hnil6
            have hb6 : Below w.heap.size w w6 := B5.out.trans ((Below.refl _ _).grown hgrow6 hz5 (fun g hg => (O5.out.lt g hg).1))
            have O6 : Hid (OwnL w6 B v6 (put xs x)) := by
              refine hide ?_; rw [HP.out]; unfold OwnL
              · have e1 : (xs.take k ++ x :: xs.drop k).length = k + 1 + (n - k) := by have := HXL.out; simp; omega
                rw [e1]
                have := own_baseT hown6 hB
                simpa using this
            have B6 := hide hb6
            clear hown6 hgrow6 hnil6 hb6
            go_wp2
            go_ret
            exact ⟨_, rfl, O6.out, B6.out⟩
          · obtain rfl : k = cap := by omega
            have hnk : n = k := by omega
            have O6 : Hid (OwnL w5 B (.slice (some ⟨g5, 0, none⟩) (k + 1) c5) (put xs x)) := by
              refine hide ?_; rw [HP.out, show xs.drop k = [] from List.drop_of_length_le (by have := HXL.out; omega)]; unfold OwnL
              · have e1 : (xs.take k ++ [x]).length = k + 1 := by have := HXL.out; simp; omega
                rw [e1]
                have := own_baseT O5.out hB
                simpa using this
            subst hnk
            have hc5I : ((n : Int) + 1) ≤ (c5 : Int) := by omega
            go_wp2
            try go_simp
            try go_wp2
            go_ret
            exact ⟨_, rfl, O6.out, B5.out⟩
    · have hklI : ¬ (k : Int) < (n : Int) := by omega
      have hput : put xs x = xs.take k ++ x :: xs.drop k := by
        have e := lp_at (n := x) xs k (by rw [HXL.out]; exact hk) HJ.out (fun h => by rw [HXL.out] at h; omega)
        unfold put
        rw [e, if_neg (fun h => by have := h.1; rw [HXL.out] at this; omega)]
      have HP := hide hput
      clear hput
      have hTL : ((xs.take k).map (Value.int .i64)).length = k * 1 := by have := HXL.out; simp; omega
      have hDL : ((xs.drop k).map (Value.int .i64)).length = (n - k) * 1 := by have := HXL.out; simp; omega
      have HTL := hide hTL
      have HDL := hide hDL
      have HTC := hide (int_take HOW.out k)
      have HDC := hide (int_drop HOW.out k)
      have hkc : (k : Int) ≤ (cap : Int) := by omega
      have hkN : (k : Int) ≤ (n : Int) := by omega
      clear hTL hDL
      go_wp2_with (first
        | (at_builtin; refine wpList_append_own _ rfl _ _ 27 rfl w.heap.size 3 i1 (.int .i64 0) 1 8 Try.underlying27 hi1 hy0 hy1 hy2 rfl (by decide) (.slice none 0 0) 0 [] rfl (World.ownsRow_nil _ _ _ _) ⟨g, 0, none⟩ k cap ((xs.take k).map (Value.int .i64)) rfl HTL.out HTC.out (ints_one _) (by unfold maxLen; omega) (by omega) (Nat.le_refl _) ?_)
        | go_in)
      intro v4 w4 hown4 hgrow4 hnil4
      have hb4 : Below w.heap.size w w4 := (Below.refl _ _).grown hgrow4 (Nat.le_refl _) (fun g hg => by cases hg)
      try simp only [List.nil_append, Nat.zero_add] at hown4
      obtain ⟨a4, c4, rfl⟩ := own_shapeT hown4
      have O4 := hide hown4
      have B4 := hide hb4
      have hz4 := hb4.size
      clear hown4 hgrow4 hnil4 hb4
      go_wp2_with (first
        | (at_builtin; refine wpList_append_own _ rfl _ _ 27 rfl w.heap.size 3 i1 (.int .i64 0) 1 8 Try.underlying27 hi1 hy0 hy1 hy2 rfl (by decide) _ _ _ rfl (O4.out.alloc _) ⟨w4.heap.size, 0, none⟩ 1 1 [.int .i64 x] rfl rfl (cell_one_new _ _ _) (by intro u hu; simp at hu; subst hu; rfl) (by unfold maxLen; omega) (by omega) (by simp; omega) ?_)
        | go_in)
      intro v5 w5 hown5 hgrow5 hnil5
      have hb5 : Below w.heap.size w w5 := B4.out.trans (((Below.refl _ _).alloc hz4 _).grown hgrow5 (by simp; omega) (fun g hg => (O4.out.lt g hg).1))
      obtain ⟨g5, c5, rfl, hc5, _⟩ := own_some hown5 (by first | exact hnil5 | (intro e; have := (hnil5.1 e).2; omega))
      have O5 := hide hown5
      have B5 := hide hb5
      have hz5 := hb5.size
      clear hown5 hgrow5 hnil5 hb5
      by_cases hko : k < cap
      · have hkoI : (k : Int) < (cap : Int) := by omega
        go_wp2_with (first
          | (at_builtin; refine wpList_append_own _ rfl _ _ 27 rfl w.heap.size 3 i1 (.int .i64 0) 1 8 Try.underlying27 hi1 hy0 hy1 hy2 rfl (by decide) _ _ _ rfl O5.out ⟨g, k, none⟩ (n - k) (cap - k) ((xs.drop k).map (Value.int .i64)) rfl HDL.out (fun j u h => (B5.out.cell (p := (⟨g, k, none⟩ : Addr).add j) (by have := hgz; unfold Addr.add; split <;> exact this)).trans (HDC.out j u h)) (ints_one _) (by unfold maxLen; omega) (by omega) hz5 ?_)
          | go_in)
        intro v6 w6 hown6 hgrow6 hnil6
        have hb6 : Below w.heap.size w w6 := B5.out.trans ((Below.refl _ _).grown hgrow6 hz5 (fun g hg => (O5.out.lt g hg).1))
        have O6 : Hid (OwnL w6 B v6 (put xs x)) := by
          refine hide ?_; rw [HP.out]; unfold OwnL
          · have e1 : (xs.take k ++ x :: xs.drop k).length = k + 1 + (n - k) := by have := HXL.out; simp; omega
            rw [e1]
            have := own_baseT hown6 hB
            simpa using this
        have B6 := hide hb6
        clear hown6 hgrow6 hnil6 hb6
        go_wp2
        go_ret
        exact ⟨_, rfl, O6.out, B6.out⟩
      · obtain rfl : k = cap := by omega
        have hnk : n = k := by omega
        have O6 : Hid (OwnL w5 B (.slice (some ⟨g5, 0, none⟩) (k + 1) c5) (put xs x)) := by
          refine hide ?_; rw [HP.out, show xs.drop k = [] from List.drop_of_length_le (by have := HXL.out; omega)]; unfold OwnL
          · have e1 : (xs.take k ++ [x]).length = k + 1 := by have := HXL.out; simp; omega
            rw [e1]
            have := own_baseT O5.out hB
            simpa using this
        subst hnk
        have hc5I : ((n : Int) + 1) ≤ (c5 : Int) := by omega
        go_wp2
        try go_simp
        try go_wp2
        go_ret
        exact ⟨_, rfl, O6.out, B5.out⟩
theorem put_new (v : Value) (xs : List Int) (x : Int) (B0 : Nat) (w : World) (hm : xs.length ≤ 4000) (hnx : x ∉ xs) (h : OwnL w B0 v xs) :
    Calls Try.prog 109 #[v, .int .i64 x] w fun e w' => ∃ v', e = .returned v' ∧ OwnL w' w.heap.size v' (put xs x) ∧ Below w.heap.size w w' := by
  rcases h.2 with ⟨hv, h0⟩ | ⟨g, cap, cur, hv, _⟩
  · subst hv
    obtain rfl : xs = [] := List.eq_nil_of_length_eq_zero h0
    exact putNil x w.heap.size w (Nat.le_refl _)
  · subst hv
    exact putSomeN B0 g xs.length cap xs x w.heap.size w (Nat.le_refl _) hm rfl hnx h
end Go.Proofs.Ytkfnejiiancmhad.L4

namespace Go.Proofs.Ytkfnejiiancmhad.L11
open Go.RowKit L1 Own L4
set_option linter.unusedVariables false

def lenV : Value → Nat
  | .slice _ n _ => n
  | _ => 0
theorem putN_any (v : Value) (xs : List Int) (x : Int) (B0 : Nat) (w : World) (hm : xs.length ≤ 4000) (hx : x ∉ xs) (h : OwnL w B0 v xs) :
    Calls Try.prog 109 #[v, .int .i64 x] w fun e w' => ∃ v', e = .returned v' ∧ OwnL w' w.heap.size v' (put xs x) ∧ Below w.heap.size w w' := by
  rcases h.2 with ⟨hv, h0⟩ | ⟨g, cap, cur, hv, _⟩
  · subst hv
    obtain rfl : xs = [] := List.eq_nil_of_length_eq_zero h0
    exact putNil x w.heap.size w (Nat.le_refl _)
  · subst hv
    exact putSomeN B0 g xs.length cap xs x w.heap.size w (Nat.le_refl _) hm rfl hx h
theorem ownL_form {w : World} {B : Nat} {v : Value} {xs : List Int} (h : OwnL w B v xs) : ∃ a cap, v = .slice a xs.length cap ∧ Sl w a xs := by
  obtain ⟨a, cap, hv, hs, _⟩ := own_form h
  exact ⟨a, cap, hv, hs⟩
/-- What is in memory while it is searched. -/
structure FB (w wr : World) (ot : Value) (b off cap : Nat) (xs ws : List Int) : Prop where
  out : OwnL wr w.heap.size ot xs
  que : Qu wr w.heap.size b off cap ws
  ne : ot.ownBlock ≠ some b
  bel : Below w.heap.size w wr
theorem FB.below {w wr w' : World} {ot : Value} {b off cap : Nat} {xs ws : List Int} (h : FB w wr ot b off cap xs ws) (hb : Below wr.heap.size wr w') : FB w w' ot b off cap xs ws :=
  ⟨own_belowT h.out hb, h.que.below hb, h.ne, h.bel.trans (hb.mono h.bel.size)⟩
/-- Within a round. -/
structure IN (l : List Ev) (k i xl m : Nat) (w wr : World) (ot : Value) (rb : Nat) (p y : Int) (j b off cap : Nat) (xs ws : List Int) : Prop where
  fb : FB w wr ot b off cap xs ws
  bj : BJ l k i j xs ws
  br : b ≠ rb
  r0 : wr.cell? ⟨rb, 0, none⟩ = some (.int .i64 p)
  r1 : wr.cell? ⟨rb, 1, none⟩ = some (.int .i64 y)
  ms : 2 * (k - xs.length) + ws.length ≤ 2 * (k - xl) + m
theorem IN.below {l : List Ev} {k i xl m : Nat} {w wr w' : World} {ot : Value} {rb : Nat} {p y : Int} {j b off cap : Nat} {xs ws : List Int} (h : IN l k i xl m w wr ot rb p y j b off cap xs ws) (hb : Below wr.heap.size wr w') : IN l k i xl m w w' ot rb p y j b off cap xs ws :=
  ⟨h.fb.below hb, h.bj, h.br, (hb.cell (p := ⟨rb, 0, none⟩) (blk_lt h.r0)).trans h.r0, (hb.cell (p := ⟨rb, 1, none⟩) (blk_lt h.r1)).trans h.r1, h.ms⟩
theorem IN.skip {l : List Ev} {k i xl m : Nat} {w wr : World} {ot : Value} {rb : Nat} {p y : Int} {j b off cap : Nat} {xs ws : List Int} (h : IN l k i xl m w wr ot rb p y j b off cap xs ws) (hj : j < 2) (hs : ∀ p : Nat, parN l i j = (p : Int) → (p : Int) ∈ xs) : IN l k i xl m w wr ot rb p y (j + 1) b off cap xs ws :=
  ⟨h.fb, h.bj.skip hj hs, h.br, h.r0, h.r1, h.ms⟩
set_option maxRecDepth 100000 in
set_option maxHeartbeats 8000000 in
theorem l11First_any (N : Int) (lb lo : Nat) (l : List (Int × Int)) (n lcap k : Nat) (w : World) (hn : l.length = n) (hs : Sl2 w (some ⟨lb, lo, none⟩) l) (hk : k < n) (hg : GoodV N l) :
    Calls Try.prog 79 #[.slice (some ⟨lb, lo, none⟩) n lcap, .int .i64 k] w fun e w' => ∃ v, e = .returned v ∧ ∃ xs : List Int, OwnL w' w.heap.size v xs ∧ (∀ p : Nat, (p : Int) ∈ xs ↔ Anc l p k) ∧ (∀ x ∈ xs, ∃ p : Nat, x = (p : Int) ∧ Anc l p k) ∧ xs.length ≤ 40 ∧ Below w.heap.size w w' := by
  have h40 : n ≤ 40 := by have := hg.2.2.1; omega
  have HG := hide hg
  have HS := hide hs
  have HN := hide hn
  clear hg hs hn
  go_enter Try.func79, Try.ntmps79
  go_upto_region 3 with fail
  obtain ⟨W, hW⟩ : ∃ W, w.alloc (.cells #[.int .i64 k] 3) = W := ⟨_, rfl⟩
  have F0 : Hid (FB w W (.slice none 0 0) w.heap.size 0 1 [] [(k : Int)]) := by
    rw [← hW]
    exact hide ⟨World.ownsRow_nil _ _ _ _, qu_new w _ (Nat.le_refl _) _, by simp [Value.ownBlock], (Below.refl _ _).alloc (Nat.le_refl _) _⟩
  rw [hW]
  clear hW
  go_loopw [5, 6] (fun ot wt wr => ∃ (xs ws : List Int) (b off cap : Nat), wt = .slice (some ⟨b, off, none⟩) ws.length cap ∧ Hid (FB w wr ot b off cap xs ws) ∧ Hid (BI l k xs ws)) (fun ot wt _ => 2 * (k - lenV ot) + lenV wt)
  case atStart => exact ⟨[], [(k : Int)], w.heap.size, 0, 1, rfl, F0, bi_start l k⟩
  case round =>
    obtain ⟨xs, ws, b, off, cap, rfl, HF, HI⟩ := hrel
    obtain ⟨oa, ocap, hov, _⟩ := ownL_form HF.out.out
    subst hov
    match ws, HF, HI with
    | [], HF, HI =>
      have HA := hide HI.out.all
      have HAN := hide HI.out.anc
      have hl := HI.out.len
      go_wp2
      go_ret
      exact ⟨_, rfl, xs, HF.out.out, HA.out, HAN.out, by omega, HF.out.bel⟩
    | x :: ws, HF, HI =>
      have hin := HI.out.want x (by simp)
      obtain ⟨i, hi⟩ : ∃ i : Nat, x = (i : Int) := by
        rcases hin with h1 | h1
        · exact ⟨k, h1⟩
        · obtain ⟨p, e, _⟩ := HI.out.anc _ h1; exact ⟨p, e⟩
      subst hi
      have HJ := hide HI.out.pop
      have hik := HJ.out.idx
      have hv := HG.out.2.2.2 i (by rw [HN.out]; omega)
      have hfi := hv.2.2.2.1
      have hq0 := HF.out.que.cell 0 (by simp)
      simp only [Nat.add_zero, List.getD_cons_zero] at hq0
      have hle := HF.out.que.le
      have hlen : ((i : Int) :: ws).length = ws.length + 1 := rfl
      rw [hlen] at hle
      obtain ⟨off', hof⟩ : ∃ off', off' = if cap = 1 then off else off + 1 := ⟨_, rfl⟩
      have hpop := slice_pop b off (ws.length + 1) cap off' (by omega) hle hof
      simp only [Nat.add_sub_cancel] at hpop
      have HF2 : Hid (FB w wr (.slice oa xs.length ocap) b off' (cap - 1) xs ws) := hide ⟨HF.out.out, by rw [hof]; exact HF.out.que.pop, HF.out.ne, HF.out.bel⟩
      have hml := HI.out.len
      have hsl := HS.out.below HF.out.bel
      obtain ⟨_, hy1⟩ := hsl.two i (by rw [HN.out]; omega)
      obtain ⟨y, hy⟩ : ∃ y, y = fr l i := ⟨_, rfl⟩
      obtain ⟨p, hp⟩ : ∃ p, p = pri l (nd l i) i := ⟨_, rfl⟩
      rw [← hy] at hy1
      have CP : Hid (∀ wx, Below wr.heap.size wr wx → Calls Try.prog 82 #[.slice (some ⟨lb, lo, none⟩) n lcap, .int .i64 i] wx fun e w' => e = .returned (.int .i64 p) ∧ Below wx.heap.size wx w') := hide (fun wx hb => prior_any lb lo l n lcap i wx HN.out (hsl.below hb) (by omega) (by omega) p hp)
      have hiI : (i : Int) < (n : Int) := by omega
      have hi0 : (0 : Int) ≤ (i : Int) := by omega
      have h0len : (0 : Int) < ((ws.length + 1 : Nat) : Int) := by omega
      have HP := hide hp
      have HY := hide hy
      have HFI := hide hfi
      clear hin hle hof hsl hy hp hv hfi
      rw [hlen]
      clear hlen
      obtain ⟨m, hm⟩ : ∃ m, m = ws.length := ⟨_, rfl⟩
      rw [← hm] at hpop h0len ⊢
      have HM := hide hm
      obtain ⟨xl, hxl⟩ : ∃ xl, xl = xs.length := ⟨_, rfl⟩
      rw [← hxl] at hml HF2 ⊢
      have HXL := hide hxl
      have HML := hide hml
      clear hm hxl hml HF HI
      go_upto_region 6 with fail
      refine wp_region_held_drew (S := (fun wx => wx.cell? ⟨lb, lo + i * 2 + 1, none⟩ = some (.int .i64 y) ∧ Below wr.heap.size wr wx)) (by kernel_rfl) ⟨hy1, (Below.refl _ _).drew⟩ (fun hHeld => ?_)
      refine wpAnyH_take (i := 0) (v := ?v1) rfl (by kernel_rfl) (by kernel_rfl) (by kernel_rfl) (fun _ _ _ h => h) (Or.inl ⟨by rfl, ?y1⟩) (by assumption) ?r1
      case y1 => (intro w hSw; (try dsimp only at hSw); go_simp; try (with_reducible rfl))
      simp only [List.getElem_toArray, List.getElem_cons_zero, Act.put, List.setIfInBounds_toArray, List.set_cons_zero, List.set_cons_succ]
      refine wpAnyH_take (i := 1) (v := ?v2) rfl (by kernel_rfl) (by kernel_rfl) (by kernel_rfl) (fun _ _ _ h => h) (Or.inl ⟨by rfl, ?y2⟩) (by assumption) ?r2
      case y2 => (intro w hSw; (try dsimp only at hSw); go_simp; try (with_reducible rfl))
      simp only [List.getElem_toArray, List.getElem_cons_succ, List.getElem_cons_zero, Act.put, List.setIfInBounds_toArray, List.set_cons_zero, List.set_cons_succ]
      refine wpAnyH_take (i := 3) (v := ?v3) rfl (by kernel_rfl) (by kernel_rfl) (by kernel_rfl) (fun _ _ _ h => h) (Or.inl ⟨by rfl, ?y3⟩) (by assumption) ?r3
      case y3 => (intro w hSw; (try dsimp only at hSw); go_simp; try (with_reducible rfl))
      simp only [List.getElem_toArray, List.getElem_cons_succ, List.getElem_cons_zero, Act.put, List.setIfInBounds_toArray, List.set_cons_zero, List.set_cons_succ]
      refine wpAnyH_take (i := 4) (v := ?v4) rfl (by kernel_rfl) (by kernel_rfl) (by kernel_rfl) (fun _ _ _ h => h) (Or.inl ⟨by rfl, ?y4⟩) (by assumption) ?r4
      case y4 => (intro w hSw; (try dsimp only at hSw); go_simp; try (with_reducible rfl))
      simp only [List.getElem_toArray, List.getElem_cons_succ, List.getElem_cons_zero, Act.put, List.setIfInBounds_toArray, List.set_cons_zero, List.set_cons_succ]
      refine wpAnyH_take (i := 5) (v := ?v5) rfl (by kernel_rfl) (by kernel_rfl) (by kernel_rfl) (fun _ _ _ h => h) (Or.inl ⟨by rfl, ?y5⟩) (by assumption) ?r5
      case y5 => (intro w hSw; (try dsimp only at hSw); go_simp; try (with_reducible rfl))
      simp only [List.getElem_toArray, List.getElem_cons_succ, List.getElem_cons_zero, Act.put, List.setIfInBounds_toArray, List.set_cons_zero, List.set_cons_succ]
      refine wpAnyH_take (i := 6) (v := ?v6) rfl (by kernel_rfl) (by kernel_rfl) (by kernel_rfl) (fun _ _ _ h => h) (Or.inl ⟨by rfl, ?y6⟩) (by assumption) ?r6
      case y6 => (intro w hSw; (try dsimp only at hSw); go_simp; try (with_reducible rfl))
      simp only [List.getElem_toArray, List.getElem_cons_succ, List.getElem_cons_zero, Act.put, List.setIfInBounds_toArray, List.set_cons_zero, List.set_cons_succ]
      refine wpAnyH_take (i := 7) (v := ?v7) rfl (by kernel_rfl) (by kernel_rfl) (by kernel_rfl) (fun _ _ _ h => h) (Or.inl ⟨by rfl, ?y7⟩) (by assumption) ?r7
      case y7 => (intro w hSw; (try dsimp only at hSw); go_simp; try (with_reducible rfl))
      simp only [List.getElem_toArray, List.getElem_cons_succ, List.getElem_cons_zero, Act.put, List.setIfInBounds_toArray, List.set_cons_zero, List.set_cons_succ]
      refine wpAnyH_take (i := 10) (v := ?v8) rfl (by kernel_rfl) (by kernel_rfl) (by kernel_rfl) (fun _ _ _ h => h) (Or.inl ⟨by rfl, ?y8⟩) (by assumption) ?r8
      case y8 => (intro w hSw; (try dsimp only at hSw); go_simp; try (with_reducible rfl))
      simp only [List.getElem_toArray, List.getElem_cons_succ, List.getElem_cons_zero, Act.put, List.setIfInBounds_toArray, List.set_cons_zero, List.set_cons_succ]
      refine wpAnyH_ready (rs := [2]) (by kernel_rfl) (by simp) ?_
      refine AllReadyH.cons rfl (fun K hK => ?_) AllReadyH.nil
      simp only [List.getElem_toArray, List.getElem_cons_succ, List.getElem_cons_zero]
      go_simp
      go_at_call 82
      refine (CP.out _ hHeld.2).mono ?_
      rintro e w1 ⟨rfl, hb1⟩
      dsimp only
      refine hK.out _ _ ?_ (fun hHeld => ?_)
      · exact ⟨(hb1.cell (p := ⟨lb, lo + i * 2 + 1, none⟩) (blk_lt hHeld.1)).trans hHeld.1, hHeld.2.trans (hb1.mono hHeld.2.size)⟩
      clear hK K
      try simp only [Act.put, List.setIfInBounds_toArray, List.set_cons_zero, List.set_cons_succ]
      have hH8 := hide hHeld
      refine wpAnyH_ready (rs := [8]) (by kernel_rfl) (by simp) ?_
      refine AllReadyH.cons rfl (fun K hK => ?_) AllReadyH.nil
      simp only [List.getElem_toArray, List.getElem_cons_succ, List.getElem_cons_zero]
      go_simp
      refine hK.out _ _ ?_ (fun hHeld => ?_)
      · exact ⟨Go.Lib.cell?_alloc_some _ hHeld.1, hHeld.2.alloc hHeld.2.size _⟩
      clear hK K
      try simp only [Act.put, List.setIfInBounds_toArray, List.set_cons_zero, List.set_cons_succ]
      refine wpAnyH_take (i := 9) (v := ?v9) rfl (by kernel_rfl) (by kernel_rfl) (by kernel_rfl) (fun _ _ _ h => h) (Or.inl ⟨by rfl, ?y9⟩) (by assumption) ?r9
      case y9 => (intro w hSw; (try dsimp only at hSw); go_simp; try (with_reducible rfl))
      simp only [List.getElem_toArray, List.getElem_cons_succ, List.getElem_cons_zero, Act.put, List.setIfInBounds_toArray, List.set_cons_zero, List.set_cons_succ]
      refine wpAnyH_done (by kernel_rfl) ?_ _
      have HF3 := hide (HF2.out.below hH8.out.2)
      obtain ⟨V, hV⟩ : ∃ V, w1.alloc (.cells #[.int .i64 p, .int .i64 y] 3) = V := ⟨_, rfl⟩
      have r0 : V.cell? ⟨w1.heap.size, 0, none⟩ = some (.int .i64 p) := by rw [← hV]; simp
      have r1 : V.cell? ⟨w1.heap.size, 1, none⟩ = some (.int .i64 y) := by rw [← hV]; simp
      have hbV : Below w1.heap.size w1 V := by rw [← hV]; exact (Below.refl _ _).alloc (Nat.le_refl _) _
      have HF4 := hide (HF3.out.below hbV)
      have hbr : b ≠ w1.heap.size := by have := HF3.out.que.lt; omega
      rw [hV]
      obtain ⟨rb, hrb⟩ : ∃ rb, rb = w1.heap.size := ⟨_, rfl⟩
      rw [← hrb] at r0 r1 hbr ⊢
      have F4 : Hid (IN l k i xl m w V (.slice oa xl ocap) rb p y 0 b off' (cap - 1) xs ws) := hide ⟨HF4.out, HJ.out, hbr, r0, r1, by have h1 := HXL.out; have h2 := HM.out; omega⟩
      clear hV hbV hrb hHeld hH8 HF2 HF3 HF4 HJ hbr r0 r1 hy1 hq0 hpop CP
      go_wp2
      go_loopw [5, 6, 30] (fun ot wt iv wr => ∃ (j : Nat) (xs ws : List Int) (b off cap : Nat), j ≤ 2 ∧ iv = .int .i64 j ∧ wt = .slice (some ⟨b, off, none⟩) ws.length cap ∧ Hid (IN l k i xl m w wr ot rb p y j b off cap xs ws)) (fun _ _ iv _ => 2 - (intOf iv).toNat)
      case atStart => exact ⟨0, xs, ws, b, off', cap - 1, by omega, rfl, by rw [HM.out], F4⟩
      case round =>
        clear F4
        obtain ⟨j, xs, ws, b, off, cap, hj2, rfl, rfl, HIN⟩ := hrel
        obtain ⟨oa, ocap, hov, hso⟩ := ownL_form HIN.out.fb.out
        subst hov
        have hxk := HIN.out.bj.len
        by_cases hj : j < 2
        · have hjI : (j : Int) < 2 := by omega
          have hj0 : (0 : Int) ≤ (j : Int) := by omega
          have hcx : wr.cell? ⟨rb, j, none⟩ = some (.int .i64 (parN l i j)) := by
            match j, hj with
            | 0, _ => rw [HIN.out.r0, HP.out]; rfl
            | 1, _ => rw [HIN.out.r1, HY.out]; rfl
          obtain ⟨z, hz⟩ : ∃ z, z = parN l i j := ⟨_, rfl⟩
          rw [← hz] at hcx
          have HZ := hide hz
          obtain ⟨xn, hxn⟩ : ∃ xn, xn = xs.length := ⟨_, rfl⟩
          obtain ⟨wn, hwn⟩ : ∃ wn, wn = ws.length := ⟨_, rfl⟩
          have HXN := hide hxn
          have HWN := hide hwn
          rw [← hxn] at hxk ⊢
          rw [← hwn]
          have HSO := hide hso
          clear hz hso hxn hwn
          by_cases hz0 : z < 0
          · have hzb : ¬ 0 ≤ z := by omega
            have N2 : Hid (IN l k i xl m w wr (.slice oa xn ocap) rb p y (j + 1) b off cap xs ws) := hide (by
              rw [HXN.out]
              exact HIN.out.skip hj (fun q hq => by rw [← HZ.out] at hq; omega))
            clear hz0
            go_wp2
            go_roundw
            case rel => exact ⟨j + 1, xs, ws, b, off, cap, by omega, by go_num, by rw [HWN.out], N2⟩
            case measure => simp [intOf]; omega
          · obtain ⟨q, hq⟩ : ∃ q : Nat, z = (q : Int) := ⟨z.toNat, by omega⟩
            subst hq
            by_cases hmem : (q : Int) ∈ xs
            · have CH := hide (fun w hs => l1Has_any oa xs xn ocap (q : Int) w HXN.out.symm hs (by omega) true (by simp [hmem]))
              have N2 : Hid (IN l k i xl m w wr (.slice oa xn ocap) rb p y (j + 1) b off cap xs ws) := hide (by
                rw [HXN.out]
                exact HIN.out.skip hj (fun q2 hq2 => by rw [← HZ.out] at hq2; rw [← hq2]; exact hmem))
              clear hz0 hmem
              go_wp2_with fail
              refine (CH.out _ HSO.out).mono ?_
              rintro e w3 ⟨rfl, hb3⟩
              have N3 := hide (N2.out.below hb3)
              clear hb3
              go_wp2
              go_roundw
              case rel => exact ⟨j + 1, xs, ws, b, off, cap, by omega, by go_num, by rw [HWN.out], N3⟩
              case measure => simp [intOf]; omega
            · have CH := hide (fun w hs => l1Has_any oa xs xn ocap (q : Int) w HXN.out.symm hs (by omega) false (by simp [hmem]))
              have hpl := put_len_new xs (q : Int) hmem
              have HBJ := hide (HIN.out.bj.add hj HFI.out HZ.out.symm hmem hpl)
              have HNM := hide hmem
              have HPL := hide hpl
              clear hz0 hmem hpl
              go_wp2_with fail
              refine (CH.out _ HSO.out).mono ?_
              rintro e w3 ⟨rfl, hb3⟩
              have HI3 := hide (HIN.out.below hb3)
              clear hb3 HIN
              go_wp2_with fail
              refine (putN_any (.slice oa xn ocap) xs (q : Int) w.heap.size w3 (by have := HXN.out; omega) (HNM.out) (by have := HI3.out.fb.out; rw [← HXN.out] at this; exact this)).mono ?_
              rintro e w4 ⟨v4, rfl, ho4, hb4⟩
              have hq4 := HI3.out.fb.que.below hb4
              have hb4l := HI3.out.fb.que.lt
              have B4 := hide (HI3.out.fb.bel.trans (hb4.mono HI3.out.fb.bel.size))
              obtain ⟨a4, c4, hv4, _⟩ := ownL_form ho4
              subst hv4
              have hne4 : (Value.slice a4 (put xs (q : Int)).length c4).ownBlock ≠ some b := fun e => by have := (ho4.lt b e).1; omega
              have rr0 := (hb4.cell (p := ⟨rb, 0, none⟩) (blk_lt HI3.out.r0)).trans HI3.out.r0
              have rr1 := (hb4.cell (p := ⟨rb, 1, none⟩) (blk_lt HI3.out.r1)).trans HI3.out.r1
              have hrl := blk_lt rr0
              have HO4 := hide (own_baseT ho4 (HI3.out.fb.bel.size))
              have HQ4 := hide hq4
              have HNE4 := hide hne4
              have HR0 := hide rr0
              have HR1 := hide rr1
              have HBR := hide HI3.out.br
              have HMS := hide HI3.out.ms
              have hsz4 := B4.out.size
              have hsz4' : w.heap.size ≤ w4.heap.size := hsz4
              have hwl := HI3.out.bj.wl
              rw [HPL.out, ← HXN.out]
              have HO5 := HO4
              rw [HPL.out, ← HXN.out] at HO5 HNE4
              clear ho4 hb4 hq4 hne4 rr0 rr1 HI3 HO4
              go_wp2_with (first
                | (at_builtin; refine wpList_append_queue rfl _ _ rfl w.heap.size b off cap ws (HQ4.out.below ((Below.refl _ _).alloc (Nat.le_refl _) _)) (by simp; omega) (q : Int) (by have := HXN.out; omega) wn HWN.out.symm rfl ⟨w4.heap.size, 0, none⟩ 1 rfl (by simp [Addr.add]) ?_)
                | go_in)
              intro b' off' cap' w6 hq6 hg6 hbb
              have F6 : Hid (IN l k i xl m w w6 (.slice a4 (xn + 1) c4) rb p y (j + 1) b' off' cap' (put xs (q : Int)) (ws ++ [(q : Int)])) := hide (by
                have hal : Below w4.heap.size w4 (w4.alloc (.cells #[.int .i64 (q : Int)] 3)) := (Below.refl _ _).alloc (Nat.le_refl _) _
                have hsza : w4.heap.size < (w4.alloc (.cells #[.int .i64 (q : Int)] 3)).heap.size := by simp
                have hblk : ∀ r, r < w4.heap.size → r ≠ b → w6.heap[r]? = w4.heap[r]? := fun r h1 h2 => (hg6.block r (by omega) (by simp; exact h2)).trans (hal.block r h1)
                have hgeb := HQ4.out.ge
                refine ⟨⟨?_, hq6, ?_, ?_⟩, HBJ.out, ?_, ?_, ?_, ?_⟩
                · have h1 := (own_belowT HO5.out hal).kept hg6 (by
                    cases h9 : (Value.slice a4 (xn + 1) c4).ownBlock with
                    | none => exact .inl rfl
                    | some r => exact .inr (fun e => HNE4.out (by rw [h9]; exact e)))
                  show w6.ownsRow _ _ _ _ _ _
                  rw [HPL.out, ← HXN.out]
                  exact h1
                · intro e
                  rcases hbb with h1 | h1
                  · subst h1; exact HNE4.out e
                  · have := (HO5.out.lt b' e).2; omega
                · have h3 := B4.out.trans (hal.mono B4.out.size)
                  exact h3.grown hg6 h3.size (fun r hr => by cases hr; exact hgeb)
                · rcases hbb with h1 | h1
                  · subst h1; exact HBR.out
                  · omega
                · exact (World.cell?_of_block (a := ⟨rb, 0, none⟩) (hblk rb hrl (Ne.symm HBR.out))).trans HR0.out
                · exact (World.cell?_of_block (a := ⟨rb, 1, none⟩) (hblk rb hrl (Ne.symm HBR.out))).trans HR1.out
                · have h1 := HMS.out
                  have h2 := HBJ.out.len
                  rw [HPL.out] at h2 ⊢
                  simp
                  omega)
              clear hq6 hg6 hbb
              go_wp2
              go_roundw
              case rel => exact ⟨j + 1, put xs (q : Int), ws ++ [(q : Int)], b', off', cap', by omega, by go_num, by rw [List.length_append, HWN.out]; rfl, F6⟩
              case measure => simp [intOf]; omega
        · obtain rfl : j = 2 := by omega
          have h22 : ((2 : Nat) : Int) = 2 := rfl
          rw [h22]
          clear h22
          have N9 := hide HIN.out.fb
          have J9 := hide HIN.out.bj.shut
          have hms := HIN.out.ms
          have hxl2 := HML.out
          clear HIN hso
          go_wp2
          go_roundw
          case rel => exact ⟨xs, ws, b, off, cap, rfl, N9, J9⟩
          case measure => simp [lenV]; omega
end Go.Proofs.Ytkfnejiiancmhad.L11

namespace Go.Proofs.Ytkfnejiiancmhad.L11
set_option linter.unusedVariables false

theorem cnt_at (l : List Ev) (x : Int) (c : Int) : ∀ m : Nat, 1 ≤ c → c ≤ cnt l x m → ∃ i, i < m ∧ nd l i = x ∧ cnt l x (i + 1) = c
  | 0, h1, h2 => by simp [cnt] at h2; omega
  | m + 1, h1, h2 => by
    by_cases h : c ≤ cnt l x m
    · obtain ⟨i, hi, r⟩ := cnt_at l x c m h1 h
      exact ⟨i, by omega, r⟩
    · have h3 : cnt l x (m + 1) = cnt l x m + if nd l m = x then 1 else 0 := rfl
      by_cases e : nd l m = x
      · rw [if_pos e] at h3
        exact ⟨m, by omega, e, by omega⟩
      · rw [if_neg e] at h3
        omega
/-- The greatest numbers of the first events of a list, node by node. -/
def gx (l : List Ev) (ys : List Int) : Nat → Int → Int
  | 0, _ => 0
  | j + 1, x => if nd l (ys.getD j 0).toNat = x ∧ gx l ys j x < cnt l x ((ys.getD j 0).toNat + 1) then cnt l x ((ys.getD j 0).toNat + 1) else gx l ys j x
theorem gx_nn (l : List Ev) (ys : List Int) (x : Int) : ∀ j, 0 ≤ gx l ys j x
  | 0 => by simp [gx]
  | j + 1 => by
    have := gx_nn l ys x j
    unfold gx
    split <;> omega
theorem gx_mono (l : List Ev) (ys : List Int) (x : Int) (j : Nat) : gx l ys j x ≤ gx l ys (j + 1) x := by
  show _ ≤ if _ then _ else _
  split <;> omega
theorem gx_ge (l : List Ev) (ys : List Int) (x : Int) (i : Nat) : ∀ j, i < j → nd l (ys.getD i 0).toNat = x → cnt l x ((ys.getD i 0).toNat + 1) ≤ gx l ys j x
  | 0, h, _ => by omega
  | j + 1, h, e => by
    by_cases hij : i = j
    · subst hij
      unfold gx
      split
      · omega
      · rename_i h2
        have : ¬ gx l ys i x < cnt l x ((ys.getD i 0).toNat + 1) := fun h3 => h2 ⟨e, h3⟩
        omega
    · exact Int.le_trans (gx_ge l ys x i j (by omega) e) (gx_mono l ys x j)
theorem gx_le (l : List Ev) (ys : List Int) (x B : Int) (h0 : 0 ≤ B) : ∀ j, j ≤ ys.length → (∀ i, i < ys.length → nd l (ys.getD i 0).toNat = x → cnt l x ((ys.getD i 0).toNat + 1) ≤ B) → gx l ys j x ≤ B
  | 0, _, _ => by simp [gx]; exact h0
  | j + 1, hj, h => by
    have ih := gx_le l ys x B h0 j (by omega) h
    unfold gx
    split
    · rename_i h2; exact h j (by omega) h2.1
    · exact ih
theorem gx_bd (l : List Ev) (ys : List Int) (x : Int) (n : Nat) (h : ∀ i, i < ys.length → (ys.getD i 0).toNat < n) (j : Nat) (hj : j ≤ ys.length) : gx l ys j x ≤ (n : Int) := by
  refine gx_le l ys x (n : Int) (by omega) j hj (fun i hi _ => ?_)
  have h1 := cnt_le l x ((ys.getD i 0).toNat + 1)
  have h2 := h i hi
  omega
/-- Of an event and all that came first for it: its clock. -/
theorem gx_clk (l : List Ev) (xs : List Int) (k : Nat) (hm : ∀ p : Nat, (p : Int) ∈ xs ↔ Anc l p k) (hp : ∀ x ∈ xs, ∃ p : Nat, x = (p : Int) ∧ Anc l p k) (x : Int) : gx l (xs ++ [(k : Int)]) (xs.length + 1) x = clk l k x := by
  have hget : ∀ i, i < (xs ++ [(k : Int)]).length → ∃ p : Nat, (xs ++ [(k : Int)]).getD i 0 = (p : Int) ∧ (p = k ∨ Anc l p k) := fun i hi => by
    by_cases h : i < xs.length
    · have e : (xs ++ [(k : Int)]).getD i 0 = xs.getD i 0 := by simp [List.getD, List.getElem?_append_left h]
      rw [e]
      have hmem : xs.getD i 0 ∈ xs := by simp only [List.getD, List.getElem?_eq_getElem h, Option.getD_some]; exact List.getElem_mem h
      obtain ⟨p, e2, ha⟩ := hp _ hmem
      exact ⟨p, e2, .inr ha⟩
    · have hi2 : i = xs.length := by simp at hi; omega
      subst hi2
      exact ⟨k, by simp [List.getD], .inl rfl⟩
  apply Int.le_antisymm
  · refine gx_le l _ x _ (clk_nn l k x) _ (by simp) (fun i hi hx => ?_)
    obtain ⟨p, e, h⟩ := hget i hi
    rw [e] at hx ⊢
    have hpt : (p : Int).toNat = p := rfl
    rw [hpt] at hx ⊢
    rw [← hx, ← clk_own]
    rcases h with rfl | h
    · exact Int.le_refl _
    · exact h.le _
  · by_cases h1 : 1 ≤ clk l k x
    · obtain ⟨i, hi, hx, hc⟩ := cnt_at l x (clk l k x) (k + 1) h1 (clk_le l k x)
      have ha : i = k ∨ Anc l i k := anc_of l k i (by rw [hx, hc]; exact Int.le_refl _)
      have hmem : (i : Int) ∈ xs ++ [(k : Int)] := by
        rcases ha with rfl | ha
        · simp
        · exact List.mem_append.2 (.inl ((hm i).2 ha))
      obtain ⟨j, hj, ej⟩ := List.getElem_of_mem hmem
      have eg : (xs ++ [(k : Int)]).getD j 0 = (i : Int) := by simp only [List.getD, List.getElem?_eq_getElem hj, Option.getD_some]; exact ej
      have := gx_ge l (xs ++ [(k : Int)]) x j (xs.length + 1) (by simpa using hj) (by rw [eg]; exact hx)
      rw [eg] at this
      rw [← hc]
      exact this
    · have := gx_nn l (xs ++ [(k : Int)]) x (xs.length + 1)
      omega
end Go.Proofs.Ytkfnejiiancmhad.L11
