/-
  Contracts of the laws' own helpers laws.markRepl and laws.heldRepl over a new world of logs: who is down and who is in step are written over, and found so.
-/
import Derived.Test.YtbcljhafdpnjbbdL9New
import Derived.Test.YtbcljhafdpnjbbdL4IntMarks
namespace Go.Proofs.Ytbcljhafdpnjbbd.L9
open Go.RowKit L1 L4 L7
set_option linter.unusedVariables false

def bq (c : Int) : Bool := c % 3 == 0
def mkB (c : Int) (n : Nat) : List Bool := (List.range n).map fun i : Nat => bq (c + (i : Int))
theorem mkB_len (c : Int) (n : Nat) : (mkB c n).length = n := by simp [mkB]
theorem mkB_get (c : Int) (n j : Nat) (h : j < n) : (mkB c n).getD j false = bq (c + (j : Int)) := by simp [mkB, List.getD, h]
set_option maxRecDepth 100000 in
set_option maxHeartbeats 1000000 in
theorem markBoolS_from (base : Nat) (v : Value) (xs : List Bool) (n : Nat) (w : World) (c : Int) (hc0 : 0 ≤ c) (hc1 : c ≤ 4294967296) (hn2 : n ≤ 1048576) (ho : w.ownsRow base 4 1 v n (xs.map Value.bool)) :
    Calls Try.prog 33 #[v, .int .i64 c] w fun e w' => e = .returned (.int .i64 (c + (n : Int))) ∧ w'.ownsRow base 4 1 v n ((mkB c n).map Value.bool) ∧ Below base w w' ∧ w.grownBy w' v.ownBlock := by
  have hl0 := ho.1
  simp at hl0
  by_cases hn0 : n = 0
  · subst hn0
    obtain ⟨a, cap, rfl, _, hl⟩ := own_formB ho
    have hx : xs = [] := List.eq_nil_of_length_eq_zero hl
    subst hx
    have HO := hide ho
    clear ho hl hl0
    go_enter Try.func33, Try.ntmps33
    go_wp2
    go_loop [1, 5] (fun k i => k = .int .i64 c ∧ i = .int .i64 0) (fun _ _ => 0)
    case atStart => exact ⟨rfl, rfl⟩
    case round =>
      obtain ⟨rfl, rfl⟩ := hrel
      go_wp2
      go_ret
      exact ⟨by simp, HO.out, Below.refl _ _, World.grownBy.refl _ _⟩
  · obtain ⟨g, cap, rfl⟩ : ∃ g cap, v = .slice (some ⟨g, 0, none⟩) n cap := by
      rcases ho.2 with ⟨_, h0⟩ | ⟨g, cap, cur, hv, _⟩
      · omega
      · exact ⟨g, cap, hv⟩
    have hge := (L8.own_lt ho g rfl).1
    have HO := hide ho
    have HL := hide hl0
    clear ho hl0 hn0
    go_enter Try.func33, Try.ntmps33
    go_wp2
    go_loopw [1, 5] (fun k i wr => ∃ (j : Nat) (ys : List Bool), j ≤ n ∧ i = .int .i64 j ∧ k = .int .i64 (c + (j : Int)) ∧ ys.length = n ∧ Hid (∀ t, t < j → ys.getD t false = (mkB c n).getD t false) ∧
        wr.ownsRow base 4 1 (.slice (some ⟨g, 0, none⟩) n cap) n (ys.map Value.bool) ∧ Below base w wr ∧ w.grownBy wr (some g)) (fun _ i _ => n - (intOf i).toNat)
    case atStart => exact ⟨0, xs, by omega, rfl, by simp, HL.out, fun t ht => absurd ht (Nat.not_lt_zero _), HO.out, Below.refl _ _, World.grownBy.refl _ _⟩
    case round =>
      obtain ⟨j, ys, hj, rfl, rfl, hyl, HY, hown, hbel, hgr⟩ := hrel
      by_cases hlt : j < n
      · have hltI : (j : Int) < (n : Int) := by omega
        have hcl := hown.cellAt j (by omega)
        have hfr := hown.frozenAt j
        obtain ⟨u, hu⟩ : ∃ u, wr.cell? ⟨g, j, none⟩ = some u := ⟨_, hcl.trans (List.getElem?_eq_getElem (by simp; omega))⟩
        have hst := hown.stored j (.bool (bq (c + (j : Int))))
        have R : ∃ (j' : Nat) (ys' : List Bool), j' ≤ n ∧ Value.int .i64 ((j : Int) + 1) = .int .i64 j' ∧ Value.int .i64 (c + (j : Int) + 1) = .int .i64 (c + (j' : Int)) ∧ ys'.length = n ∧ Hid (∀ t, t < j' → ys'.getD t false = (mkB c n).getD t false) ∧
            (wr.setCell ⟨g, j, none⟩ (.bool (bq (c + (j : Int))))).ownsRow base 4 1 (.slice (some ⟨g, 0, none⟩) n cap) n (ys'.map Value.bool) ∧ Below base w (wr.setCell ⟨g, j, none⟩ (.bool (bq (c + (j : Int))))) ∧ w.grownBy (wr.setCell ⟨g, j, none⟩ (.bool (bq (c + (j : Int))))) (some g) := by
          refine ⟨j + 1, ys.set j (bq (c + (j : Int))), by omega, by simp, by simp; omega, by simpa using hyl, ?_, by rw [List.map_set]; exact hst.1, hbel.setCell (p := ⟨g, j, none⟩) hge _, hgr.trans hst.2⟩
          intro t ht
          by_cases e : t = j
          · subst e
            rw [mkB_get c n t (by omega)]
            simp [List.getD, hyl, hlt]
          · rw [← HY.out t (by omega)]
            simp [List.getD, Ne.symm e]
        have HR := hide R
        obtain ⟨q, hq⟩ : ∃ q, q = bq (c + (j : Int)) := ⟨_, rfl⟩
        rw [← hq] at HR
        have hbq : ((c + (j : Int)) % 3 == 0) = q := by rw [hq]; rfl
        clear hq
        clear hcl hst R hyl
        go_wp2
        go_roundw
        case rel => exact HR.out
        case measure => simp [intOf]; omega
      · obtain rfl : j = n := by omega
        have e : ys = mkB c j := list_sameB (mkB_len c j) hyl (fun t ht => HY.out t ht)
        subst e
        have hltI : ¬ (j : Int) < (j : Int) := by omega
        clear hyl
        go_wp2
        go_ret
        exact ⟨rfl, hown, hbel, hgr⟩

set_option maxRecDepth 100000 in
set_option maxHeartbeats 1000000 in
theorem heldBoolS_from (a : Option Addr) (n cap : Nat) (c : Int) (w : World) (hc0 : 0 ≤ c) (hc1 : c ≤ 4294967296) (hn2 : n ≤ 1048576) (hs : SlB w a (mkB c n)) :
    Calls Try.prog 34 #[.slice a n cap, .int .i64 c] w fun e w' => e = .returned (.int .i64 (c + (n : Int))) ∧ Below w.heap.size w w' := by
  have HS := hide hs
  clear hs
  go_enter Try.func34, Try.ntmps34
  go_wp2
  go_loop [1, 5] (fun k i => ∃ j : Nat, j ≤ n ∧ i = .int .i64 j ∧ k = .int .i64 (c + (j : Int))) (fun _ i => n - (intOf i).toNat)
  case atStart => exact ⟨0, by omega, rfl, by simp⟩
  case round =>
    obtain ⟨j, hj, rfl, rfl⟩ := hrel
    by_cases hlt : j < n
    · obtain ⟨b, off, rfl, hc⟩ := HS.out j (by rw [mkB_len]; exact hlt)
      rw [mkB_get c n j hlt] at hc
      have hltI : (j : Int) < (n : Int) := by omega
      obtain ⟨q, hq⟩ : ∃ q, q = bq (c + (j : Int)) := ⟨_, rfl⟩
      rw [← hq] at hc
      have hbq : ((c + (j : Int)) % 3 == 0) = q := by rw [hq]; rfl
      clear hq
      go_wp2
      go_round
      case rel => exact ⟨j + 1, by omega, by go_num, by go_num⟩
      case measure => simp [intOf]; omega
    · have hltI : ¬ (j : Int) < (n : Int) := by omega
      obtain rfl : j = n := by omega
      go_wp2
      go_ret
      exact ⟨rfl, Below.refl _ _⟩

set_option maxRecDepth 100000 in
set_option maxHeartbeats 1000000 in
theorem heldIntS_from (a : Option Addr) (n cap : Nat) (c : Int) (w : World) (hc0 : 0 ≤ c) (hc1 : c ≤ 4294967296) (hn2 : n ≤ 1048576) (hs : Sl w a (mkC c n)) :
    Calls Try.prog 49 #[.slice a n cap, .int .i64 c] w fun e w' => e = .returned (.int .i64 (c + (n : Int))) ∧ Below w.heap.size w w' := by
  have HS := hide hs
  clear hs
  go_enter Try.func49, Try.ntmps49
  go_wp2
  go_loop [1, 5] (fun k i => ∃ j : Nat, j ≤ n ∧ i = .int .i64 j ∧ k = .int .i64 (c + (j : Int))) (fun _ i => n - (intOf i).toNat)
  case atStart => exact ⟨0, by omega, rfl, by simp⟩
  case round =>
    obtain ⟨j, hj, rfl, rfl⟩ := hrel
    by_cases hlt : j < n
    · obtain ⟨b, off, rfl, hc⟩ := HS.out j (by rw [mkC_len]; exact hlt)
      rw [mkC_get c n j hlt] at hc
      have hltI : (j : Int) < (n : Int) := by omega
      go_wp2
      go_round
      case rel => exact ⟨j + 1, by omega, by go_num, by go_num⟩
      case measure => simp [intOf]; omega
    · have hltI : ¬ (j : Int) < (n : Int) := by omega
      obtain rfl : j = n := by omega
      go_wp2
      go_ret
      exact ⟨rfl, Below.refl _ _⟩


theorem ty6 : 30 ≠ 4 := by decide
set_option maxRecDepth 100000 in
set_option maxHeartbeats 400000 in
theorem markEntryS_nil (cap : Nat) (c : Int) (w : World) :
    Calls Try.prog 47 #[.slice none 0 cap, .int .i64 c] w fun e w' => e = .returned (.int .i64 c) ∧ w = w' := by
  go_enter Try.func47, Try.ntmps47
  go_wp2
  go_loop [1, 5] (fun k i => k = .int .i64 c ∧ i = .int .i64 0) (fun _ _ => 0)
  case atStart => exact ⟨rfl, rfl⟩
  case round =>
    obtain ⟨rfl, rfl⟩ := hrel
    go_wp2
    go_ret
    exact ⟨rfl, rfl⟩
set_option maxRecDepth 100000 in
set_option maxHeartbeats 400000 in
theorem markEntrySS_nil (a : Option Addr) (m cap : Nat) (c : Int) (w : World) (hm : m ≤ 5) (hc0 : 0 ≤ c) (hc1 : c ≤ 4294967296) {base : Nat} (ho : w.ownsRow base 30 1 (.slice a m cap) m (List.replicate m (.slice none 0 0))) :
    Calls Try.prog 45 #[.slice a m cap, .int .i64 c] w fun e w' => e = .returned (.int .i64 c) ∧ Below w.heap.size w w' := by
  have HC : Hid (∀ i, i < m → ∃ g, a = some ⟨g, 0, none⟩ ∧ w.cell? ⟨g, i, none⟩ = some (.slice none 0 0)) := fun i hi => by
    rcases ho.2 with ⟨_, h0⟩ | ⟨g, cp, cur, hv, _⟩
    · omega
    · cases hv
      have := ho.cells (g := g) rfl i (.slice none 0 0) (by simp [hi])
      rw [addr_add] at this
      exact ⟨g, rfl, by simpa using this⟩
  have hcn : ¬ c < 0 := by omega
  clear ho
  go_enter Try.func45, Try.ntmps45
  go_wp2
  go_loopw [1, 5] (fun k i wr => ∃ j : Nat, j ≤ m ∧ i = .int .i64 j ∧ k = .int .i64 c ∧ w = wr) (fun _ i _ => m - (intOf i).toNat)
  case atStart => exact ⟨0, Nat.zero_le _, rfl, rfl, rfl⟩
  case round =>
    obtain ⟨j, hj, rfl, rfl, rfl⟩ := hrel
    by_cases hlt : j < m
    · obtain ⟨g, rfl, hc⟩ := HC.out j hlt
      have hltI : (j : Int) < (m : Int) := by omega
      go_wp2_with fail
      refine (markEntryS_nil 0 c _).mono ?_
      rintro e w1 ⟨rfl, rfl⟩
      go_wp2
      go_roundw
      case rel => exact ⟨j + 1, by omega, by go_num, by first | trivial | rfl, by first | trivial | rfl⟩
      case measure => simp [intOf]; omega
    · have hltI : ¬ (j : Int) < (m : Int) := by omega
      go_wp2
      go_ret
      exact ⟨rfl, Below.refl _ _⟩
set_option maxRecDepth 100000 in
set_option maxHeartbeats 400000 in
theorem heldEntryS_nil (cap : Nat) (c : Int) (w : World) :
    Calls Try.prog 50 #[.slice none 0 cap, .int .i64 c] w fun e w' => e = .returned (.int .i64 c) ∧ w = w' := by
  go_enter Try.func50, Try.ntmps50
  go_wp2
  go_loop [1, 5] (fun k i => k = .int .i64 c ∧ i = .int .i64 0) (fun _ _ => 0)
  case atStart => exact ⟨rfl, rfl⟩
  case round =>
    obtain ⟨rfl, rfl⟩ := hrel
    go_wp2
    go_ret
    exact ⟨rfl, rfl⟩
set_option maxRecDepth 100000 in
set_option maxHeartbeats 400000 in
theorem heldEntrySS_nil (a : Option Addr) (m cap : Nat) (c : Int) (w : World) (hm : m ≤ 5) (hc0 : 0 ≤ c) (hc1 : c ≤ 4294967296) {base : Nat} (ho : w.ownsRow base 30 1 (.slice a m cap) m (List.replicate m (.slice none 0 0))) :
    Calls Try.prog 48 #[.slice a m cap, .int .i64 c] w fun e w' => e = .returned (.int .i64 c) ∧ Below w.heap.size w w' := by
  have HC : Hid (∀ i, i < m → ∃ g, a = some ⟨g, 0, none⟩ ∧ w.cell? ⟨g, i, none⟩ = some (.slice none 0 0)) := fun i hi => by
    rcases ho.2 with ⟨_, h0⟩ | ⟨g, cp, cur, hv, _⟩
    · omega
    · cases hv
      have := ho.cells (g := g) rfl i (.slice none 0 0) (by simp [hi])
      rw [addr_add] at this
      exact ⟨g, rfl, by simpa using this⟩
  have hcn : ¬ c < 0 := by omega
  clear ho
  go_enter Try.func48, Try.ntmps48
  go_wp2
  go_loopw [1, 5] (fun k i wr => ∃ j : Nat, j ≤ m ∧ i = .int .i64 j ∧ k = .int .i64 c ∧ w = wr) (fun _ i _ => m - (intOf i).toNat)
  case atStart => exact ⟨0, Nat.zero_le _, rfl, rfl, rfl⟩
  case round =>
    obtain ⟨j, hj, rfl, rfl, rfl⟩ := hrel
    by_cases hlt : j < m
    · obtain ⟨g, rfl, hc⟩ := HC.out j hlt
      have hltI : (j : Int) < (m : Int) := by omega
      go_wp2_with fail
      refine (heldEntryS_nil 0 c _).mono ?_
      rintro e w1 ⟨rfl, rfl⟩
      go_wp2
      go_roundw
      case rel => exact ⟨j + 1, by omega, by go_num, by first | trivial | rfl, by first | trivial | rfl⟩
      case measure => simp [intOf]; omega
    · have hltI : ¬ (j : Int) < (m : Int) := by omega
      go_wp2
      go_ret
      exact ⟨rfl, Below.refl _ _⟩
/-- Nil logs, as they lie in memory. -/
theorem nil_cells {w : World} {base m : Nat} {a : Option Addr} {c : Nat} (h : w.ownsRow base 30 1 (.slice a m c) m (List.replicate m (.slice none 0 0))) : SlG w a (List.replicate m []) := fun i hi => by
  have hi' : i < m := by simpa using hi
  rcases h.2 with ⟨_, h0⟩ | ⟨g, cap, cur, hv, _⟩
  · omega
  · cases hv
    have := h.cells (g := g) rfl i (.slice none 0 0) (by simp [hi'])
    rw [addr_add] at this
    have e : (List.replicate m ([] : List En)).getD i [] = [] := by simp [List.getD, hi']
    rw [e]
    exact ⟨g, 0, rfl, none, 0, by simpa using this, fun j hj => by simp at hj⟩
theorem OwR.rpf {w : World} {base m : Nat} {ag ad ay : Option Addr} {cg cd cy : Nat} {dn : List Bool} {sy : List Int} (h : OwR w base (.slice ag m cg) (.slice ad m cd) (.slice ay m cy) m dn sy) : RpF w ag ad ay none (List.replicate m []) dn sy [] := by
  obtain ⟨a1, c1, e1, s1, _⟩ := own_formB h.d
  obtain ⟨a2, c2, e2, s2, _⟩ := own_form h.y
  cases e1
  cases e2
  exact ⟨⟨nil_cells h.g, s2, fun i hi => by simp at hi⟩, s1⟩
theorem OwR.below {w w' : World} {base m : Nat} {vg vd vy : Value} {dn : List Bool} {sy : List Int} (h : OwR w base vg vd vy m dn sy) (hb : Below w.heap.size w w') : OwR w' base vg vd vy m dn sy := ⟨L7.own_belowT h.g hb, L7.own_belowT h.d hb, L7.own_belowT h.y hb⟩
theorem rpz_new {m : Nat} {sy : List Int} (hm : m ≤ 5) (hy : sy.length = m) : RpZ (List.replicate m []) sy [] m m m 0 := by
  have e : ∀ i, i < m → (List.replicate m ([] : List En)).getD i [] = [] := fun i hi => by simp [List.getD, hi]
  refine ⟨by simp, hy, rfl, by omega, by omega, by omega, by omega, fun i hi => ?_, fun i hi => ?_⟩
  · rw [e i (by simpa using hi)]
    simp
  · rw [e i (by simpa using hi)]
    exact ⟨by simp, fun j hj => by simp at hj⟩
set_option maxRecDepth 100000 in
set_option maxHeartbeats 2000000 in
theorem markRepl_new (base hi : Nat) (ag : Option Addr) (cg : Nat) (ad : Option Addr) (cd : Nat) (ay : Option Addr) (cy m : Nat) (ep : Int) (dn : List Bool) (sy : List Int) (w : World) (hm : m ≤ 5) (ho : OwR w base (.slice ag m cg) (.slice ad m cd) (.slice ay m cy) m dn sy) (hd : ∀ g, (Value.slice ad m cd).ownBlock = some g → g < hi) (hy : ∀ g, (Value.slice ay m cy).ownBlock = some g → g < hi) (hb0 : base ≤ w.heap.size) :
    Calls Try.prog 16 #[rpV ag m cg ad m cd 0 ep ay m cy none 0 0, .int .i64 1] w fun e w' => e = .returned (.int .i64 (1 + (m : Int) + (m : Int))) ∧ OwR w' base (.slice ag m cg) (.slice ad m cd) (.slice ay m cy) m (mkB 1 m) (mkC (1 + (m : Int)) m) ∧ L8.Only base hi w w' := by
  have BX := (Below.refl w.heap.size w).alloc (Nat.le_refl _) (rpO ag m cg ad m cd 0 ep ay m cy none 0 0)
  have HX := hide BX
  have O0 := hide (ho.below BX)
  have HD := hide hd
  have HY := hide hy
  clear ho BX hd hy
  go_enter Try.func16, Try.ntmps16
  go_wp2_with fail
  refine (markEntrySS_nil ag m cg 1 _ hm (by omega) (by omega) O0.out.g).mono ?_
  rintro e w1 ⟨rfl, hb⟩
  have G1 := hide ((hb.block w.heap.size (by simp)).trans (blk_new9 _ _))
  have ON1 : Hid (L8.Only base hi w w1) := hide (L8.Only.of_below (HX.out.trans (hb.mono HX.out.size)))
  have O1 := hide (O0.out.below hb)
  have hz1 : base ≤ w1.heap.size := by have := hb.size; simp at this; omega
  have hbs : base ≤ w.heap.size := hb0
  obtain ⟨k0, k1, k2, k3, k4, k5⟩ := blk6 G1.out
  clear hb O0
  go_wp2_with fail
  refine (markBoolS_from base _ dn m _ 1 (by omega) (by omega) (by omega) O1.out.d).mono ?_
  rintro e w2 ⟨rfl, hd2, hb2, hg2⟩
  have nd : ∀ b cur, w1.heap[b]? = some (.cells cur 32 (0, 0)) → some b ≠ (Value.slice ad m cd).ownBlock := fun b cur h => not_own O1.out.d h (Ne.symm ty5)
  have G2 := hide ((hg2.block w.heap.size (Array.getElem?_eq_some_iff.1 G1.out).1 (nd _ _ G1.out)).trans G1.out)
  have O2 : Hid (OwR w2 base (.slice ag m cg) (.slice ad m cd) (.slice ay m cy) m (mkB 1 m) sy) := hide ⟨L8.own_kept O1.out.g hg2 (fun g hg e => L8.own_two O1.out.g O1.out.d ty6 g hg e), hd2, L8.own_kept O1.out.y hg2 (fun g hg e => L8.own_two O1.out.y O1.out.d ty3 g hg e)⟩
  have ON2 : Hid (L8.Only base hi w w2) := hide (ON1.out.grown hg2 (fun g hg => ⟨(L8.own_lt O1.out.d g hg).1, HD.out g hg⟩))
  clear hd2 hb2 nd k0 k1 k2 k3 k4 k5
  obtain ⟨k0, k1, k2, k3, k4, k5⟩ := blk6 G2.out
  clear hg2 O1 ON1 G1
  go_wp2_with fail
  refine (markIntS_from base _ sy m _ (1 + (m : Int)) (by omega) (by omega) (by omega) O2.out.y).mono ?_
  rintro e w3 ⟨rfl, hd3, hb3, hg3⟩
  have G3 := hide ((hg3.block w.heap.size (Array.getElem?_eq_some_iff.1 G2.out).1 (not_own O2.out.y G2.out ty1)).trans G2.out)
  have O3 : Hid (OwR w3 base (.slice ag m cg) (.slice ad m cd) (.slice ay m cy) m (mkB 1 m) (mkC (1 + (m : Int)) m)) := hide ⟨L8.own_kept O2.out.g hg3 (fun g hg e => L8.own_two O2.out.g O2.out.y (Ne.symm ty2) g hg e), L8.own_kept O2.out.d hg3 (fun g hg e => L8.own_two O2.out.d O2.out.y (Ne.symm ty3) g hg e), hd3⟩
  have ON3 : Hid (L8.Only base hi w w3) := hide (ON2.out.grown hg3 (fun g hg => ⟨(L8.own_lt O2.out.y g hg).1, HY.out g hg⟩))
  clear hd3 hb3 k0 k1 k2 k3 k4 k5
  obtain ⟨k0, k1, k2, k3, k4, k5⟩ := blk6 G3.out
  clear hg3 O2 ON2 G2
  go_wp2_with fail
  refine (markEntryS_nil 0 _ _).mono ?_
  rintro e w4 ⟨rfl, rfl⟩
  go_wp2
  go_ret
  exact ⟨rfl, O3.out, ON3.out⟩
set_option maxRecDepth 100000 in
set_option maxHeartbeats 2000000 in
theorem heldRepl_new (ag : Option Addr) (cg : Nat) (ad : Option Addr) (cd : Nat) (ay : Option Addr) (cy m base : Nat) (ep : Int) (w : World) (hm : m ≤ 5) (ho : OwR w base (.slice ag m cg) (.slice ad m cd) (.slice ay m cy) m (mkB 1 m) (mkC (1 + (m : Int)) m)) :
    Calls Try.prog 17 #[rpV ag m cg ad m cd 0 ep ay m cy none 0 0, .int .i64 1] w fun e w' => e = .returned (.int .i64 (1 + (m : Int) + (m : Int))) ∧ Below w.heap.size w w' := by
  have BX := (Below.refl w.heap.size w).alloc (Nat.le_refl _) (rpO ag m cg ad m cd 0 ep ay m cy none 0 0)
  have HX := hide BX
  have O0 := hide (ho.below BX)
  clear ho BX
  go_enter Try.func17, Try.ntmps17
  go_wp2_with fail
  refine (heldEntrySS_nil ag m cg 1 _ hm (by omega) (by omega) O0.out.g).mono ?_
  rintro e w1 ⟨rfl, hb⟩
  have G1 := hide ((hb.block w.heap.size (by simp)).trans (blk_new9 _ _))
  have B1 := hide (HX.out.trans (hb.mono HX.out.size))
  have O1 := hide (O0.out.below hb).rpf
  obtain ⟨k0, k1, k2, k3, k4, k5⟩ := blk6 G1.out
  clear hb O0
  go_wp2_with fail
  refine (heldBoolS_from ad m cd 1 _ (by omega) (by omega) (by omega) O1.out.d).mono ?_
  rintro e w2 ⟨rfl, hb⟩
  have G2 := hide ((hb.block w.heap.size (Array.getElem?_eq_some_iff.1 G1.out).1).trans G1.out)
  have B2 := hide (B1.out.trans (hb.mono B1.out.size))
  have O2 := hide (O1.out.below hb)
  clear hb k0 k1 k2 k3 k4 k5
  obtain ⟨k0, k1, k2, k3, k4, k5⟩ := blk6 G2.out
  have n2 : ¬ 1 + (m : Int) < 0 := by omega
  go_wp2_with fail
  refine (heldIntS_from ay m cy (1 + (m : Int)) _ (by omega) (by omega) (by omega) O2.out.s.y).mono ?_
  rintro e w3 ⟨rfl, hb⟩
  have G3 := hide ((hb.block w.heap.size (Array.getElem?_eq_some_iff.1 G2.out).1).trans G2.out)
  have B3 := hide (B2.out.trans (hb.mono B2.out.size))
  clear hb k0 k1 k2 k3 k4 k5
  obtain ⟨k0, k1, k2, k3, k4, k5⟩ := blk6 G3.out
  have n3 : ¬ 1 + (m : Int) + (m : Int) < 0 := by omega
  go_wp2_with fail
  refine (heldEntryS_nil 0 _ _).mono ?_
  rintro e w4 ⟨rfl, rfl⟩
  go_wp2
  go_ret
  exact ⟨rfl, B3.out⟩
end Go.Proofs.Ytbcljhafdpnjbbd.L9
