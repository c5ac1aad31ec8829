/-
  Contract: impl.PutVarint makes the digits to 128 of a number's ZigZag, as a text, and true; outside -1000000000000..1000000000000 the empty text and false; memory that was there stays as it was.
-/
import Derived.Test.YtapffbbmofhpoaaDoorL1Conv
import Derived.Test.YtapffbbmofhpoaaDoorL1Digits
namespace Go.Proofs.YtapffbbmofhpoaaDoor.L1
open Go.RowKit
set_option linter.unusedVariables false

set_option maxRecDepth 100000 in
set_option maxHeartbeats 400000 in
theorem zigZag_yes (n : Int) (w : World) (h1 : -1000000000000 ≤ n) (h2 : n ≤ 1000000000000) :
    Calls Tryd.prog 11 #[.int .i64 n] w fun e w' => e = .returned (.tuple #[.int .i64 (zig n), .bool true]) ∧ w = w' := by
  unfold zig
  by_cases h : n < 0
  · rw [if_pos h]
    go_enter Tryd.func11, Tryd.ntmps11
    go_wp2
    go_ret2
    exact ⟨rfl, rfl⟩
  · rw [if_neg h]
    go_enter Tryd.func11, Tryd.ntmps11
    go_wp2
    go_ret2
    exact ⟨rfl, rfl⟩
set_option maxRecDepth 100000 in
set_option maxHeartbeats 400000 in
theorem zigZag_no (n : Int) (w : World) (h : ¬ (-1000000000000 ≤ n ∧ n ≤ 1000000000000)) :
    Calls Tryd.prog 11 #[.int .i64 n] w fun e w' => e = .returned (.tuple #[.int .i64 0, .bool false]) ∧ w = w' := by
  by_cases h1 : -1000000000000 ≤ n
  · have h2 : ¬ n ≤ 1000000000000 := fun h2 => h ⟨h1, h2⟩
    clear h
    go_enter Tryd.func11, Tryd.ntmps11
    go_wp2
    go_ret2
    exact ⟨rfl, rfl⟩
  · clear h
    go_enter Tryd.func11, Tryd.ntmps11
    go_wp2
    go_ret2
    exact ⟨rfl, rfl⟩

set_option maxRecDepth 100000 in
set_option maxHeartbeats 400000 in
theorem putVarint_no (n : Int) (w : World) (h : ¬ (-1000000000000 ≤ n ∧ n ≤ 1000000000000)) :
    Calls Tryd.prog 9 #[.int .i64 n] w fun e w' => e = .returned (.tuple #[.string ⟨#[]⟩, .bool false]) ∧ w = w' := by
  have zc := fun w => zigZag_no n w h
  have ZC := hide zc
  clear zc h
  go_enter Tryd.func9, Tryd.ntmps9
  go_wp2_with (go_at_call 11; refine (unhide ZC _).mono ?_; rintro e w' ⟨rfl, rfl⟩)
  go_ret2
  exact ⟨rfl, rfl⟩

theorem vd_get (z : Int) (k : Nat) (h0 : 0 ≤ z) (h1 : z ≤ 2000000000000) (hk : k < (vd z).length) :
    (vd z).getD k 0 = z / wor k % 128 + (if k + 1 < (vd z).length then 128 else 0) :=
  vdf_get 5 z k h0 (by simp [wor]; omega) hk

theorem made_row (n : Nat) : (madeCells (Value.int .u8 0).cells (n * 1)).toList = (List.replicate n (0 : Int)).map (Value.int .u8) := by
  rw [Nat.mul_one]
  show (madeCells #[Value.int .u8 0] n).toList = _
  rw [toList_madeCells_one]
  simp

/-- One round: the next digit is laid at its place. -/
theorem put_round {w wr : World} {Z d : Int} {m k : Nat} {xs : List Int} (hlt : k < m) (hl : xs.length = m) (hd : (vd Z).getD k 0 = d) (HX : ∀ j, j < k → xs.getD j 0 = (vd Z).getD j 0)
    (hown : wr.ownsRow w.heap.size 5 1 (.slice (some ⟨w.heap.size, 0, none⟩) m m) m (xs.map (Value.int .u8))) (hb : Below w.heap.size w wr) (HT : Tab wr) (ht : 0 < w.heap.size) :
    ∃ (k' : Nat) (xs' : List Int), k' ≤ m ∧ Value.int .i64 ((k : Int) + 1) = .int .i64 k' ∧ xs'.length = m ∧ Hid (∀ j, j < k' → xs'.getD j 0 = (vd Z).getD j 0) ∧
      (wr.setCell ⟨w.heap.size, k, none⟩ (.int .u8 d)).ownsRow w.heap.size 5 1 (.slice (some ⟨w.heap.size, 0, none⟩) m m) m (xs'.map (Value.int .u8)) ∧ Below w.heap.size w (wr.setCell ⟨w.heap.size, k, none⟩ (.int .u8 d)) ∧ Hid (Tab (wr.setCell ⟨w.heap.size, k, none⟩ (.int .u8 d))) := by
  have hst := hown.stored k (.int .u8 d)
  have hb2 := hb.setCell (p := ⟨w.heap.size, k, none⟩) (Nat.le_refl _) (.int .u8 d)
  refine ⟨k + 1, xs.set k d, by omega, by simp, by simpa using hl, ?_, by rw [List.map_set]; exact hst.1, hb2, ?_⟩
  · intro j hj
    by_cases e : j = k
    · subst e
      rw [hd]
      simp [List.getD, hl, hlt]
    · rw [← HX j (by omega)]
      simp [List.getD, Ne.symm e]
  · intro j hj
    have := HT j hj
    rw [← this]
    exact World.cell?_of_block (Below.heap_setCell _ _ _ _ (by simp; omega))

set_option maxRecDepth 100000 in
set_option maxHeartbeats 1000000 in
theorem putVarint_yes (n : Int) (w : World) (h1 : -1000000000000 ≤ n) (h2 : n ≤ 1000000000000) (ht : Tab w) :
    Calls Tryd.prog 9 #[.int .i64 n] w fun e w' => e = .returned (.tuple #[.string (strOfNums (vd (zig n))), .bool true]) ∧ Below w.heap.size w w' := by
  have z0 := zig_lo n
  have z1 := zig_hi n h1 h2
  obtain ⟨i0, hi, hz0, hz1, hz2⟩ := info_parts info_u8
  have hm6 : (vd (zig n)).length ≤ 6 := vdf_le 5 (zig n)
  have hm1 : 1 ≤ (vd (zig n)).length := vdf_pos 5 (zig n)
  obtain ⟨w1, hmk, hown1, hg1⟩ := run_make_full (P := Tryd.prog) w w.heap.size 22 5 i0 (.int .u8 0) 1 Tryd.underlying22 hi hz0 hz1 .i64 .i64 (vd (zig n)).length (by rw [hz2]; omega) (by unfold maxLen; omega) (Nat.le_refl _)
  rw [made_row] at hown1
  have hb1 : Below w.heap.size w w1 := (Below.refl _ _).grown hg1 (Nat.le_refl _) (fun k hk => by cases hk)
  have HT1 := hide (ht.below hb1)
  have hgl : 0 < w.heap.size := block_lt (ht 0 (by omega))
  have HO := hide hown1
  clear hown1 hg1
  obtain ⟨Z, hZ⟩ : ∃ Z, Z = zig n := ⟨_, rfl⟩
  have zc := fun w => zigZag_yes n w h1 h2
  have dc := digitsOf_any (zig n) w z0 z1 ht
  rw [← hZ] at z0 z1 zc dc hm6 hm1 hmk HO ⊢
  have HZ := hide hZ
  obtain ⟨m, hm⟩ : ∃ m, m = (vd Z).length := ⟨_, rfl⟩
  rw [← hm] at hm6 hm1 hmk HO dc
  have HM := hide hm
  have ZC := hide zc
  have DC := hide dc
  clear hZ hm h1 h2 ht zc dc
  go_enter Tryd.func9, Tryd.ntmps9
  go_wp2_with (first | (go_at_call 11; refine (unhide ZC _).mono ?_; rintro e w' ⟨rfl, rfl⟩) | (go_at_call 74; refine (unhide DC).mono ?_; rintro e w' ⟨rfl, rfl⟩))
  go_loopw [25] (fun i wr => ∃ (k : Nat) (xs : List Int), k ≤ m ∧ i = .int .i64 k ∧ xs.length = m ∧ Hid (∀ j, j < k → xs.getD j 0 = (vd Z).getD j 0) ∧
      wr.ownsRow w.heap.size 5 1 (.slice (some ⟨w.heap.size, 0, none⟩) m m) m (xs.map (Value.int .u8)) ∧ Below w.heap.size w wr ∧ Hid (Tab wr)) (fun i _ => m - (intOf i).toNat)
  case atStart => exact ⟨0, List.replicate m 0, Nat.zero_le _, rfl, by simp, fun j hj => absurd hj (Nat.not_lt_zero _), HO, hb1, HT1⟩
  case round =>
    obtain ⟨k, xs, hk, rfl, hxl, HX, hown, hbel, HT⟩ := hrel
    have HL := hide hxl
    clear hxl
    by_cases hlt : k < m
    · have hc := unhide HT k (by omega)
      have hw1 := wor_pos k
      have hg := vd_get Z k z0 z1 (by rw [← HM.out]; exact hlt)
      rw [← HM.out] at hg
      have hcl := hown.cellAt k (by omega)
      have hfr := hown.frozenAt k
      have hst := hown.stored k (.int .u8 ((vd Z).getD k 0))
      have hltI : (k : Int) < (m : Int) := by omega
      have hqn : 0 ≤ Z / wor k := Int.ediv_nonneg z0 (by omega)
      have hqm : Z / wor k ≤ 2000000000000 := Int.le_trans (Int.ediv_le_self _ z0) z1
      have hq : 0 ≤ Z / wor k % 128 ∧ Z / wor k % 128 < 128 := ⟨by omega, by omega⟩
      obtain ⟨hq0, hq1⟩ := hq
      have HG := hide hg
      have HS := hide hst
      have hcl2 : ∃ v, wr.cell? ⟨w.heap.size, k, none⟩ = some v := ⟨_, hcl.trans (List.getElem?_eq_getElem (by have := HL.out; simp; omega))⟩
      obtain ⟨v, hv⟩ := hcl2
      clear hcl hg hst
      by_cases hl : k + 1 < m
      · have hlI : (k : Int) < (m : Int) - 1 := by omega
        go_wp2
        go_roundw
        case rel => exact put_round hlt HL.out (by rw [HG.out]; rw [if_pos hl]) HX.out hown hbel HT.out hgl
        case measure => simp [intOf]; omega
      · have hlI : ¬ (k : Int) < (m : Int) - 1 := by omega
        go_wp2
        go_roundw
        case rel => exact put_round hlt HL.out (by rw [HG.out]; rw [if_neg hl]; simp) HX.out hown hbel HT.out hgl
        case measure => simp [intOf]; omega
    · obtain rfl : k = m := by omega
      have hxs : xs = vd Z := by
        apply List.ext_getElem?
        intro j
        by_cases hj : j < k
        · have h := HX.out j hj
          have hl1 := HL.out
          have hl2 := HM.out
          simp only [List.getD, List.getElem?_eq_getElem (show j < xs.length by omega), List.getElem?_eq_getElem (show j < (vd Z).length by omega), Option.getD_some] at h
          rw [List.getElem?_eq_getElem (show j < xs.length by omega), List.getElem?_eq_getElem (show j < (vd Z).length by omega), h]
        · have hl1 := HL.out
          have hl2 := HM.out
          rw [List.getElem?_eq_none (by omega), List.getElem?_eq_none (by omega)]
      have hcv := conv_own hown (by omega)
      rw [hxs] at hcv
      clear hown hxs
      go_wp2
      go_ret2
      exact ⟨rfl, hbel⟩
end Go.Proofs.YtapffbbmofhpoaaDoor.L1
