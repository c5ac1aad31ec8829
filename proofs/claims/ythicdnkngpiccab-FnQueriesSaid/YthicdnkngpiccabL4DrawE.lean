/-
  Contracts: the draws of EvalQuery, PostsOf, NotQuery; the laws' own helper sameQuery.
-/
import Derived.Test.YthicdnkngpiccabL4DrawS
import Derived.Test.YthicdnkngpiccabL4DrawQ
import Derived.Deep.QuietTactic
import Derived.BigQuiet
namespace Go.Proofs.Ythicdnkngpiccab.L4
open Go.RowKit L1 L3
set_option linter.unusedVariables false

theorem OwnS.base {w : World} {B B' m : Nat} {v : Value} (h : OwnS w B v m) (hB : B' ≤ B) : OwnS w B' v m := by
  obtain ⟨ls, vs, h1, h2, h3, h4⟩ := h
  refine ⟨ls, vs, h1, h2, own_baseT h3 hB, fun i hi => ?_⟩
  obtain ⟨ai, ci, k1, k2, k3⟩ := h4 i hi
  exact ⟨ai, ci, k1, own_baseT k2 hB, k3⟩
theorem OwnS.shape {w : World} {B m : Nat} {v : Value} (h : OwnS w B v m) : ∃ oa k ocap, v = .slice oa k ocap := by
  obtain ⟨ls, vs, h1, h2, h3, h4⟩ := h
  obtain ⟨oa, ocap, e⟩ := own_shapeT h3
  exact ⟨oa, _, ocap, e⟩
theorem OwnQ.base {w : World} {B B' m : Nat} {v : Value} (h : OwnQ w B v m) (hB : B' ≤ B) : OwnQ w B' v m := by
  obtain ⟨xs, hl, hp, ho⟩ := h
  exact ⟨xs, hl, hp, own_baseT ho hB⟩
theorem OwnQ.shape {w : World} {B m : Nat} {v : Value} (h : OwnQ w B v m) : ∃ oa k ocap, v = .slice oa k ocap := by
  obtain ⟨xs, hl, hp, ho⟩ := h
  obtain ⟨oa, ocap, e⟩ := own_shapeT ho
  exact ⟨oa, _, ocap, e⟩

set_option maxRecDepth 100000 in
set_option maxHeartbeats 2000000 in
theorem drawEval_any (a : Option Addr) (n cap : Nat) (w : World) (h : Slb w w.heap.size a n) (hn : n ≤ 1048576) :
    Calls Try.prog 18 #[.slice a n cap] w fun e w' => ∃ v u, e = .returned (.tuple #[v, u]) ∧ OwnS w' w.heap.size v 61 ∧ OwnQ w' w.heap.size u 21 ∧ Below w.heap.size w w' := by
  have HC := hide (cur_new (cap := cap) h hn)
  clear h
  have hsz0 : (w.alloc (Obj.cells #[.slice a n cap, .int .i64 0, .int .u64 0] 55)).heap.size = w.heap.size + 1 := by simp
  go_enter Try.func18, Try.ntmps18
  go_wp2_with fail
  refine (series_any _ 0 _ HC.out (by omega)).mono ?_
  rintro e w1 ⟨v, rfl, hT1, hc1, hg1⟩
  rw [hsz0] at hT1
  obtain ⟨oa, k1, ocap, rfl⟩ := hT1.shape
  have T1 := hide hT1
  have C1 := hide hc1
  have G1 := hide hg1
  have hz1 := hg1.size
  rw [hsz0] at hz1
  clear hT1 hc1 hg1
  go_wp2_with fail
  refine (query_any _ (0 + 5000) _ C1.out (by omega)).mono ?_
  rintro e w2 ⟨u, rfl, hT2, hc2, hg2⟩
  obtain ⟨ob, k2, obcap, rfl⟩ := hT2.shape
  have T2 := hide (hT2.base (show w.heap.size ≤ w1.heap.size by omega))
  have T1' := hide ((T1.out.grown hg2 (by omega)).base (Nat.le_succ _))
  have B2 := hide (grown_to_below (grown_trans G1.out hg2))
  clear hT2 hc2 hg2
  go_wp2
  go_ret2
  exact ⟨_, _, rfl, T1'.out, T2.out, B2.out⟩

set_option maxRecDepth 100000 in
set_option maxHeartbeats 2000000 in
theorem drawGoodQ_any (a : Option Addr) (n cap : Nat) (w : World) (h : Slb w w.heap.size a n) (hn : n ≤ 1048576) :
    Calls Try.prog 53 #[.slice a n cap] w fun e w' => ∃ u, e = .returned u ∧ OwnQ w' w.heap.size u 21 ∧ Below w.heap.size w w' := by
  have HC := hide (cur_new (cap := cap) h hn)
  clear h
  have hsz0 : (w.alloc (Obj.cells #[.slice a n cap, .int .i64 0, .int .u64 0] 55)).heap.size = w.heap.size + 1 := by simp
  go_enter Try.func53, Try.ntmps53
  go_wp2_with fail
  refine (query_any _ 0 _ HC.out (by omega)).mono ?_
  rintro e w1 ⟨v, rfl, hT1, hc1, hg1⟩
  rw [hsz0] at hT1
  have T1 := hide (hT1.base (Nat.le_succ _))
  have B1 := hide (grown_to_below hg1)
  clear hT1 hc1 hg1
  go_wp2
  go_ret
  exact ⟨_, rfl, T1.out, B1.out⟩

set_option maxRecDepth 100000 in
set_option maxHeartbeats 2000000 in
theorem drawNot_any (a : Option Addr) (n cap : Nat) (w : World) (h : Slb w w.heap.size a n) (hn : n ≤ 1048576) :
    Calls Try.prog 27 #[.slice a n cap] w fun e w' => ∃ u, e = .returned u ∧ OwnQ w' w.heap.size u 21 ∧ Below w.heap.size w w' := by
  have AC := hide (drawGoodQ_any a n cap w h hn)
  clear h
  go_enter Try.func27, Try.ntmps27
  go_wp2_with fail
  refine AC.out.mono ?_
  rintro e w1 ⟨v, rfl, hT1, hb1⟩
  have T1 := hide hT1
  have B1 := hide hb1
  clear hT1 hb1
  go_wp2
  go_ret
  exact ⟨_, rfl, T1.out, B1.out⟩

set_option maxRecDepth 100000 in
set_option maxHeartbeats 2000000 in
theorem drawPostsOf_any (a : Option Addr) (n cap : Nat) (w : World) (h : Slb w w.heap.size a n) (hn : n ≤ 1048576) :
    Calls Try.prog 24 #[.slice a n cap] w fun e w' => ∃ v s t, e = .returned (.tuple #[v, .agg #[.string s, .string t]]) ∧ (s.size ≤ 20 ∧ t.size ≤ 20) ∧ OwnS w' w.heap.size v 61 ∧ Below w.heap.size w w' := by
  obtain ⟨W0, hW0⟩ : ∃ W0, w.alloc (.cells #[.string ⟨#[]⟩, .string ⟨#[]⟩] 44) = W0 := ⟨_, rfl⟩
  have hb0 : Below w.heap.size w W0 := by rw [← hW0]; exact (Below.refl _ _).alloc (Nat.le_refl _) _
  have hz0 : W0.heap.size = w.heap.size + 1 := by rw [← hW0]; simp
  have hk0 : W0.heap[w.heap.size]? = some (.cells #[.string ⟨#[]⟩, .string ⟨#[]⟩] 44 (0, 0)) := by
    rw [← hW0]
    show (w.heap.push _)[w.heap.size]? = _
    exact Array.getElem?_push_size
  have HC := hide (cur_new (cap := cap) (Slb.below h hb0) hn)
  have HW := hide hW0
  have HK := hide hk0
  have HB0 := hide hb0
  clear h hW0 hk0 hb0
  have hsz0 : (W0.alloc (Obj.cells #[.slice a n cap, .int .i64 0, .int .u64 0] 55)).heap.size = W0.heap.size + 1 := by simp
  go_enter Try.func24, Try.ntmps24
  go_wp2_with fail
  rw [HW.out]
  rw [← hz0]
  have hle1 : W0.heap.size ≤ w.heap.size + 1 := by omega
  have hle2 : w.heap.size + 1 ≤ W0.heap.size := by omega
  clear hz0
  refine (series_any _ 0 _ HC.out (by omega)).mono ?_
  rintro e w1 ⟨v, rfl, hT1, hc1, hg1⟩
  rw [hsz0] at hT1
  obtain ⟨oa, k1, ocap, rfl⟩ := hT1.shape
  have T1 := hide hT1
  have C1 := hide hc1
  have G1 := hide hg1
  have hz1 := hg1.size
  rw [hsz0] at hz1
  clear hT1 hc1 hg1
  go_wp2_with fail
  refine (label_any _ (0 + 5000) _ C1.out (by omega)).mono ?_
  rintro e w2 ⟨s, t, rfl, hst, hc2, hg2⟩
  have hg12 := grown_trans G1.out hg2
  have hk2 : w2.heap[w.heap.size]? = some (.cells #[.string ⟨#[]⟩, .string ⟨#[]⟩] 44 (0, 0)) := by
    rw [hg12.block w.heap.size (by rw [hsz0]; omega) (by simp; omega), Below.heap_alloc _ _ _ (by omega)]
    exact HK.out
  have k0 : w2.cell? ⟨w.heap.size, 0, none⟩ = some (.string ⟨#[]⟩) := by rw [Lib.cell_of_heap hk2]; rfl
  have k1' : w2.cell? ⟨w.heap.size, 1, none⟩ = some (.string ⟨#[]⟩) := by rw [Lib.cell_of_heap hk2]; rfl
  have f0 := Lib.frozen_of_heap hk2 0
  have f1 := Lib.frozen_of_heap hk2 1
  have hbs := ((Below.refl (w.heap.size) w2).setCell (p := ⟨w.heap.size, 0, none⟩) (Nat.le_refl _) (.string s)).setCell (p := ⟨w.heap.size, 1, none⟩) (Nat.le_refl _) (.string t)
  have hS2 := T1.out.grown hg2 (by omega)
  have hS3 : OwnS ((w2.setCell ⟨w.heap.size, 0, none⟩ (.string s)).setCell ⟨w.heap.size, 1, none⟩ (.string t)) (W0.heap.size + 1) (.slice oa k1 ocap) 61 := by
    obtain ⟨ls, vs, q1, q2, q3, q4⟩ := hS2
    refine ⟨ls, vs, q1, q2, ownsRow_setCell_below (ownsRow_setCell_below q3 (by show w.heap.size < _; omega) _) (by show w.heap.size < _; omega) _, fun i hi => ?_⟩
    obtain ⟨ai, ci, r1, r2, r3⟩ := q4 i hi
    exact ⟨ai, ci, r1, ownsRow_setCell_below (ownsRow_setCell_below r2 (by show w.heap.size < _; omega) _) (by show w.heap.size < _; omega) _, r3⟩
  have T3 := hide (hS3.base (show w.heap.size ≤ W0.heap.size + 1 by omega))
  have B3 := hide ((HB0.out.trans ((grown_to_below hg12).mono (by omega))).trans hbs)
  clear hc2 hg2 hg12 hk2 hbs hS2 hS3 T1 C1 G1
  go_wp2
  refine bodyPost_ret (v := .tuple #[.slice oa k1 ocap, .agg #[.string s, .string t]]) (by simp [results, Try.f24, go_sem, k0, k1']) rfl ⟨_, s, t, rfl, hst, T3.out, B3.out⟩

set_option maxRecDepth 100000 in
set_option maxHeartbeats 2000000 in
theorem sameQuery_any (a b : Option Addr) (l : List Qr) (n c1 c2 : Nat) (w : World) (hn : l.length = n) (ha : SlQ w a l) (hb : SlQ w b l) (hn2 : n ≤ 1048576) :
    Calls Try.prog 29 #[.slice a n c1, .slice b n c2] w fun e w' => e = .returned (.bool true) ∧ Below w.heap.size w w' := by
  have HA := hide ha
  have HB := hide hb
  have HN := hide hn
  clear ha hb hn
  go_enter Try.func29, Try.ntmps29
  go_wp2
  go_loopw [13] (fun i wr => ∃ k : Nat, k ≤ n ∧ i = .int .i64 k ∧ Below w.heap.size w wr) (fun i _ => n - (intOf i).toNat)
  case atStart => exact ⟨0, Nat.zero_le _, rfl, Below.refl _ _⟩
  case round =>
    obtain ⟨k, hk, rfl, hbel⟩ := hrel
    by_cases hlt : k < n
    · obtain ⟨b1, o1, rfl, h1⟩ := HA.out k (by rw [HN.out]; exact hlt)
      obtain ⟨b2, o2, rfl, h2⟩ := HB.out k (by rw [HN.out]; exact hlt)
      obtain ⟨x, hx⟩ : ∃ x, x = l.getD k eQ := ⟨_, rfl⟩
      rw [← hx] at h1 h2
      obtain ⟨p1, p2, p3, p4, p5⟩ := h1.base hbel (blk_lt h1.k)
      obtain ⟨q1, q2, q3, q4, q5⟩ := h2.base hbel (blk_lt h2.k)
      have hltI : (k : Int) < (n : Int) := by omega
      have hk0 : (0 : Int) ≤ (k : Int) := by omega
      clear h1 h2 hx
      go_wp2
      go_quiet (fail)
      go_wp2
      go_roundw
      case rel => exact ⟨k + 1, by omega, by go_num, hbel.trans (below_drewN _ _ _)⟩
      case measure => simp [intOf]; omega
    · have hltI : ¬ (k : Int) < (n : Int) := by omega
      go_wp2
      go_ret
      exact ⟨rfl, hbel⟩
end Go.Proofs.Ythicdnkngpiccab.L4
