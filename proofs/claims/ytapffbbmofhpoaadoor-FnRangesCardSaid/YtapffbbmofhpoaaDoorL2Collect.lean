/-
  Contract: impl.collectNumbers takes all that an iterator hands out, in new memory, and true, where each is in -1000000000000..1000000000000; else no list and false.
-/
import Derived.Test.YtapffbbmofhpoaaDoorL2Iter
namespace Go.Proofs.YtapffbbmofhpoaaDoor.L1
open Go.RowKit Go.Shelf
attribute [local go_sem] Oper.semAt_some
set_option linter.unusedVariables false

open Classical in
/-- The list itself, where all its numbers are within their bounds. -/
noncomputable def okRes (xs : List Int) : Option (List Int) := if OkL xs then some xs else none

set_option maxRecDepth 100000 in
set_option maxHeartbeats 400000 in
theorem isNumber_yes (F : Fence) (n : Nat) (hf : F.fn 77) (hro : F.round = none) (x : Int) (w : World) (h1 : -1000000000000 ≤ x) (h2 : x ≤ 1000000000000) :
    CallsIn F n Tryd.prog 77 #[.int .i64 x] w fun e w' => e = .returned (.bool true) ∧ w = w' := by
  refine callsIn_of_wp Tryd.func77 rfl hf ?_ hro
  simp only [Tryd.ntmps77, List.size_toArray, List.length_cons, List.length_nil, Nat.reduceAdd, Nat.reduceSub, Array.replicate_succ, Array.replicate_zero, List.push_toArray, List.append_toArray, List.nil_append, List.cons_append]
  gi_wp2
  go_ret
  exact ⟨rfl, rfl⟩
set_option maxRecDepth 100000 in
set_option maxHeartbeats 400000 in
theorem isNumber_no (F : Fence) (n : Nat) (hf : F.fn 77) (hro : F.round = none) (x : Int) (w : World) (h : ¬ (-1000000000000 ≤ x ∧ x ≤ 1000000000000)) :
    CallsIn F n Tryd.prog 77 #[.int .i64 x] w fun e w' => e = .returned (.bool false) ∧ w = w' := by
  by_cases h1 : -1000000000000 ≤ x
  · have h2 : ¬ x ≤ 1000000000000 := fun h2 => h ⟨h1, h2⟩
    clear h
    refine callsIn_of_wp Tryd.func77 rfl hf ?_ hro
    simp only [Tryd.ntmps77, List.size_toArray, List.length_cons, List.length_nil, Nat.reduceAdd, Nat.reduceSub, Array.replicate_succ, Array.replicate_zero, List.push_toArray, List.append_toArray, List.nil_append, List.cons_append]
    gi_wp2
    go_ret
    exact ⟨rfl, rfl⟩
  · clear h
    refine callsIn_of_wp Tryd.func77 rfl hf ?_ hro
    simp only [Tryd.ntmps77, List.size_toArray, List.length_cons, List.length_nil, Nat.reduceAdd, Nat.reduceSub, Array.replicate_succ, Array.replicate_zero, List.push_toArray, List.append_toArray, List.nil_append, List.cons_append]
    gi_wp2
    go_ret
    exact ⟨rfl, rfl⟩

theorem okL_snoc {pre : List Int} {x : Int} (h : OkL pre) (hx : -1000000000000 ≤ x ∧ x ≤ 1000000000000) : OkL (pre ++ [x]) :=
  okL_of_mem (fun y hy => by
    simp only [List.mem_append, List.mem_singleton] at hy
    rcases hy with hy | rfl
    · exact okL_mem' h y hy
    · exact hx)
theorem okL_not {pre xs : List Int} {x : Int} (hp : pre ++ [x] <+: xs) (hx : ¬ (-1000000000000 ≤ x ∧ x ≤ 1000000000000)) : ¬ OkL xs := fun h =>
  hx (okL_mem' h x (hp.subset (by simp)))

set_option maxRecDepth 100000 in
set_option maxHeartbeats 2000000 in
theorem collect_in (F : Fence) (n : Nat) (hf : F.fn 106) (hfi : F.fn 77) (hro : F.round = none) (hn : 3 ≤ n) {gf : Nat} {lb : Array Value} (hFg : F.fn gf)
    (eg : ∀ args w, (callFunc gf args).run Tryd.prog w = .ok (.enter gf args) w) (xs : List Int) (h40 : xs.length ≤ 40) (w : World)
    (hseq : ∀ w0, Below w.heap.size w w0 → SeqStopsK F (n - 1) Tryd.prog gf lb (fun x : Int => #[Value.int .i64 x]) (Below w.heap.size) (fun ys => ys = xs) (fun pre => pre <+: xs) xs.length w0) :
    CallsIn F n Tryd.prog 106 #[.func (.func gf) #[] lb] w fun e W' => RetL w (okRes xs) e W' := by
  have h1 : 1 ≤ n := by omega
  obtain ⟨i0, hi, hz0, hz1, hz2⟩ := info_parts info_int
  refine callsIn_of_wp_marks Tryd.func106 rfl hf ?_ hro
  simp only [Tryd.ntmps106, List.size_toArray, List.length_cons, List.length_nil, Nat.reduceAdd, Nat.reduceSub, Array.replicate_succ, Array.replicate_zero, List.push_toArray, List.append_toArray, List.nil_append, List.cons_append]
  gi_wp2
  have bA := Boxed.new w 32 (.slice none 0 0)
  have bB := Boxed.new (w.alloc (.cells #[.slice none 0 0] 32)) 4 (.bool false)
  have bC := Boxed.new ((w.alloc (.cells #[.slice none 0 0] 32)).alloc (.cells #[.bool false] 4)) 32 (.slice none 0 0)
  simp only [World.size_alloc] at bB bC
  have hB0 : Below w.heap.size w (((w.alloc (.cells #[.slice none 0 0] 32)).alloc (.cells #[.bool false] 4)).alloc (.cells #[.slice none 0 0] 32)) := (((Below.refl _ w).alloc (Nat.le_refl _) _).alloc (by simp) _).alloc (by simp; omega) _
  refine wpIn_rangeFunc_ownG hro h1 (gf := gf) (lb := lb) rfl hFg eg
    (hseq _ hB0) belowK_t (belowK_b (by simp; omega)) (Below.refl _ _) (fun _ => rfl)
    (fun pre W => (OkL pre ∧ Boxed W w.heap.size 32 (.slice none 0 0) ∧ Boxed W (w.heap.size + 1) 4 (.bool false) ∧ ∃ v, Boxed W (w.heap.size + 1 + 1) 32 v ∧ W.ownsRow w.heap.size 3 1 v pre.length (pre.map (Value.int .i64)) ∧ True) ∧ Below w.heap.size w W)
    (fun c pre W => (c = .ret ∧ (∃ p x, pre = p ++ [x] ∧ ¬ (-1000000000000 ≤ x ∧ x ≤ 1000000000000)) ∧ Boxed W w.heap.size 32 (.slice none 0 0) ∧ Boxed W (w.heap.size + 1) 4 (.bool false)) ∧ Below w.heap.size w W)
    (OwnFrom.and (OwnFrom.and (ownFrom_pure _ OkL) (OwnFrom.and (Own.from (boxed_own _ _ (fun _ => .slice none 0 0)) _) (OwnFrom.and (Own.from (boxed_own _ _ (fun _ => .bool false)) _) (Own.from (holdsRow_own w.heap.size (w.heap.size + 1 + 1) 32 3 1 (fun pre : List Int => pre.length) (fun pre => pre.map (Value.int .i64)) (fun _ _ => True)) _)))) (ownFrom_below (Nat.le_refl _) (by simp; omega)))
    (fun c => OwnFrom.and (OwnFrom.and (ownFrom_pure _ (fun _ => c = .ret)) (OwnFrom.and (ownFrom_pure _ (fun pre : List Int => ∃ p x, pre = p ++ [x] ∧ ¬ (-1000000000000 ≤ x ∧ x ≤ 1000000000000))) (OwnFrom.and (Own.from (boxed_own _ _ (fun _ => .slice none 0 0)) _) (Own.from (boxed_own _ _ (fun _ => .bool false)) _)))) (ownFrom_below (Nat.le_refl _) (by simp; omega)))
    ⟨⟨okL_nil, (bA.alloc _).alloc _, bB.alloc _, _, bC, World.ownsRow_nil _ _ _ _, trivial⟩, hB0⟩
    (fun x => { tmps := #[.func (.func gf) #[] lb, undef, .pointer (some ⟨w.heap.size, 0, none⟩), .pointer (some ⟨w.heap.size + 1, 0, none⟩), .pointer (some ⟨w.heap.size + 1 + 1, 0, none⟩), .int .i64 x, .func (.func gf) #[] lb, .int .i64 x, undef, undef, undef, undef, undef, undef, undef, undef], defers := [] }) ?assign ?body ?done ?stop
  case assign =>
    intro l x W K hK
    gi_wp2
    exact hK
  case body =>
    rintro l pre x W ⟨⟨hp, hA, hB, v, hv, hrow, _⟩, hBel⟩ hlt
    have hd : 1 ≤ n - 1 - 1 := by omega
    have hsz := hBel.size
    by_cases hin : -1000000000000 ≤ x ∧ x ≤ 1000000000000
    · have hc := hv.cell
      have HP := hide (okL_snoc hp hin)
      have HIN := hide hin
      have HA := hide hA
      have HB := hide hB
      clear hp hin hA hB
      gi_wp2_with (first
        | (gi_at_call 77; refine (CallsIn.inRound l (isNumber_yes F _ hfi hro x _ HIN.out.1 HIN.out.2)).mono ?_; rintro e w' ⟨rfl, rfl⟩)
        | (gi_at_builtin; refine wpListIn_append_own _ rfl _ _ 32 rfl w.heap.size 3 i0 (.int .i64 0) 1 8 Tryd.underlying32 hi hz0 hz1 hz2 rfl (by decide) _ _ _ rfl (hrow.alloc _) ⟨W.heap.size, 0, none⟩ 1 1 [.int .i64 x] rfl rfl (cell_one_new _ _ _) (by simp [Value.oneCell']) (by unfold maxLen; omega) (by omega) (by simp; omega) ?_; intro v' w1 hown' hgrow _; obtain ⟨g', cap', rfl⟩ := ownsRow_succ hown'; obtain ⟨hv1, hv2, hr2, hk2, hb2⟩ := hv.appended (by decide) hrow hBel.size (by omega) hown' hgrow; have hc1 := hv1.cell; have hf1 := hv1.frozen; have hA2 := ((HA.out.alloc _).kept hgrow (HA.out.not_row (by decide) hrow)).other (B' := w.heap.size + 1 + 1) (by omega) (.slice (some ⟨g', 0, none⟩) (pre.length + 1) cap'); have hB2 := ((HB.out.alloc _).kept hgrow (HB.out.not_row (by decide) hrow)).other (B' := w.heap.size + 1 + 1) (by omega) (.slice (some ⟨g', 0, none⟩) (pre.length + 1) cap')))
      exact ⟨hk2.from _, hb2, ⟨HP.out, hA2, hB2, _, hv2, by simpa using hr2, trivial⟩, hBel.trans hb2⟩
    · have hcA := hA.cell
      have hfA := hA.frozen
      have hcB := hB.cell
      have hfB := hB.frozen
      have HIN := hide hin
      clear hin
      gi_wp2_with (gi_at_call 77; refine (CallsIn.inRound l (isNumber_no F _ hfi hro x _ HIN.out)).mono ?_; rintro e w' ⟨rfl, rfl⟩)
      refine ⟨((KeepsOthers.setCell _ _ _).trans (KeepsOthers.setCell _ _ _)).from _, ⟨rfl, ⟨pre, x, rfl, HIN.out⟩, (hA.set _).other (by omega) _, (hB.other (by omega) _).set _⟩, (hBel.setCell (p := ⟨w.heap.size, 0, none⟩) (Nat.le_refl _) _).setCell (p := ⟨w.heap.size + 1, 0, none⟩) (by simp) _⟩
  case done =>
    rintro D ys W hD rfl ⟨⟨hp, hA, hB, v, hv, hrow, _⟩, hBel⟩ hK
    obtain ⟨va, vcap, rfl, _, _⟩ := own_form hrow
    have hc := hv.cell
    have hcA := hA.cell
    have hfA := hA.frozen
    have hB1 := hB.other (B' := w.heap.size) (by omega) (.slice va ys.length vcap)
    have hcB := hB1.cell
    have hfB := hB1.frozen
    have hA2 := (hA.set (.slice va ys.length vcap)).other (B' := w.heap.size + 1) (by omega) (.bool true)
    have hB2 := hB1.set (.bool true)
    have hr2 := (hrow.kept (grownBy_setCell' W w.heap.size (.slice va ys.length vcap)) (.inr (hA.not_row (by decide) hrow).symm))
    have hr3 := (hr2.kept (grownBy_setCell' _ (w.heap.size + 1) (.bool true)) (.inr (hB1.not_row (by decide) hr2).symm))
    have hK2 := ((KeepsOthers.setCell W ⟨w.heap.size, 0, none⟩ (.slice va ys.length vcap)).trans (KeepsOthers.setCell _ ⟨w.heap.size + 1, 0, none⟩ (.bool true))).same D _ hK rfl
    have hb2 := (hBel.setCell (p := ⟨w.heap.size, 0, none⟩) (Nat.le_refl _) (.slice va ys.length vcap)).setCell (p := ⟨w.heap.size + 1, 0, none⟩) (by simp) (.bool true)
    gi_wp2
    refine ⟨by simp, .inl ⟨_, _, rfl, run_takeDeferred hK2, ?_⟩⟩
    have c5 := cell_kept hA2.cell (grownBy_putObj' _ D (.deferred none)) (fun r e => by cases e; exact ⟨_, hK2, rfl⟩)
    have c6 := cell_kept hB2.cell (grownBy_putObj' _ D (.deferred none)) (fun r e => by cases e; exact ⟨_, hK2, rfl⟩)
    have er : okRes ys = some ys := by unfold okRes; rw [if_pos hp]
    refine ⟨.tuple #[.slice va ys.length vcap, .bool true], ?_, .slice va ys.length vcap, by rw [er]; rfl, by rw [er]; exact ownsRow_putObj hr3 _ hK2 rfl, hb2.trans (belowK_b (w := w) (Nat.le_refl _) _ D _ _ (by simp at hD; omega) hK2 rfl rfl)⟩
    simp [results, Tryd.f106, go_sem, c5, c6]
  case stop =>
    rintro D c pre W hD hpre ⟨⟨rfl, ⟨p, x, rfl, hx⟩, hA, hB⟩, hBel⟩ hK
    gi_wp2
    refine ⟨by simp, .inl ⟨_, _, rfl, run_takeDeferred hK, ?_⟩⟩
    have c5 := cell_kept hA.cell (grownBy_putObj' _ D (.deferred none)) (fun r e => by cases e; exact ⟨_, hK, rfl⟩)
    have c6 := cell_kept hB.cell (grownBy_putObj' _ D (.deferred none)) (fun r e => by cases e; exact ⟨_, hK, rfl⟩)
    have er : okRes xs = none := by unfold okRes; rw [if_neg (okL_not hpre hx)]
    refine ⟨.tuple #[.slice none 0 0, .bool false], ?_, .slice none 0 0, by rw [er]; rfl, by rw [er]; exact World.ownsRow_nil _ _ _ _, hBel.trans (belowK_b (w := w) (Nat.le_refl _) W D _ _ (by simp at hD; omega) hK rfl rfl)⟩
    simp [results, Tryd.f106, go_sem, c5, c6]
end Go.Proofs.YtapffbbmofhpoaaDoor.L1
