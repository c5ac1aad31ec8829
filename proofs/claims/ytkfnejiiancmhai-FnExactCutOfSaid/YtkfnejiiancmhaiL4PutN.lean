/-
  Contract: spec.l1Put of a number that is not there: new memory.
-/
import Derived.Test.YtkfnejiiancmhaiL4Put
import Derived.Test.YtkfnejiiancmhaiL4Math
namespace Go.Proofs.Ytkfnejiiancmhai.L4
open Go.RowKit L1
set_option linter.unusedVariables false

set_option maxRecDepth 100000 in
set_option maxHeartbeats 4000000 in
theorem putSomeN (B0 : Nat) (g n cap : Nat) (xs : List Int) (x : Int) (B : Nat) (w : World) (hB : B ≤ w.heap.size) (hn : n ≤ 4000) (hx : xs.length = n) (hnx : x ∉ xs) (ho : w.ownsRow B0 3 1 (.slice (some ⟨g, 0, none⟩) n cap) n (xs.map (Value.int .i64))) :
    Calls Try.prog 60 #[.slice (some ⟨g, 0, none⟩) n cap, .int .i64 x] w fun e w' => ∃ v, e = .returned v ∧ OwnL w' B v (put xs x) ∧ Below w.heap.size w w' := by
  obtain ⟨i1, hi1, hy0, hy1, hy2⟩ := info_parts info_int
  obtain ⟨hcap1, hcap2⟩ : n ≤ cap ∧ cap ≤ maxLen := by
    obtain ⟨g', c', e, h1, h2⟩ := own_some ho (fun e => by cases e)
    cases e
    exact ⟨h1, h2⟩
  unfold maxLen at hcap2
  have hcapI : (cap : Int) ≤ 9223372036854775807 := by omega
  have hgz := (ho.lt g rfl).2
  have HNX := hide hnx
  have HOW := hide ho
  have HXL := hide hx
  clear ho hx hnx
  go_enter Try.func60, Try.ntmps60
  go_wp2
  go_loop [5] (fun kv => ∃ k : Nat, k ≤ n ∧ kv = .int .i64 k ∧ Hid (∀ j, j < k → xs.getD j 0 < x)) (fun kv => n - (intOf kv).toNat)
  case atStart => exact ⟨0, Nat.zero_le _, rfl, fun j hj => absurd hj (Nat.not_lt_zero _)⟩
  case round =>
    obtain ⟨k, hk, rfl, HJ⟩ := hrel
    by_cases hkl : k < n
    · have hklI : (k : Int) < (n : Int) := by omega
      have hc := HOW.out.cellAt k (by omega)
      obtain ⟨y, HY, hy⟩ : ∃ y : Int, Hid (xs.getD k 0 = y) ∧ w.cell? ⟨g, k, none⟩ = some (.int .i64 y) := by
        refine ⟨xs.getD k 0, rfl, hc.trans ?_⟩
        have := HXL.out
        rw [List.getElem?_map, List.getElem?_eq_getElem (by omega)]
        simp [List.getD, List.getElem?_eq_getElem (show k < xs.length by omega)]
      clear hc
      by_cases hyx : y < x
      · go_wp2
        go_round
        case rel =>
          refine ⟨k + 1, by omega, by go_num, ?_⟩
          intro j hj
          by_cases e : j = k
          · subst e; rw [HY.out]; exact hyx
          · exact HJ.out j (by omega)
        case measure => simp [intOf]; omega
      · by_cases hxe : y = x
        · exact absurd (by rw [← hxe, ← HY.out]; exact getD_mem (by rw [HXL.out]; exact hkl)) HNX.out
        · have hxe' : (y == x) = false := by simpa using hxe
          have hput : put xs x = xs.take k ++ x :: xs.drop k := by
            have e := lp_at (n := x) xs k (by rw [HXL.out]; exact hk) HJ.out (fun _ => by rw [HY.out]; exact hyx)
            unfold put
            rw [e, if_neg (fun h => hxe (by rw [← HY.out]; exact h.2))]
          have HP := hide hput
          clear hxe hput
          have hTL : ((xs.take k).map (Value.int .i64)).length = k * 1 := by have := HXL.out; simp; omega
          have hDL : ((xs.drop k).map (Value.int .i64)).length = (n - k) * 1 := by have := HXL.out; simp; omega
          have HTL := hide hTL
          have HDL := hide hDL
          have HTC := hide (int_take HOW.out k)
          have HDC := hide (int_drop HOW.out k)
          have hkc : (k : Int) ≤ (cap : Int) := by omega
          have hkN : (k : Int) ≤ (n : Int) := by omega
          clear hTL hDL
          go_wp2_with (first
            | (at_builtin; refine wpList_append_own _ rfl _ _ 24 rfl w.heap.size 3 i1 (.int .i64 0) 1 8 Try.underlying24 hi1 hy0 hy1 hy2 rfl (by decide) (.slice none 0 0) 0 [] rfl (World.ownsRow_nil _ _ _ _) ⟨g, 0, none⟩ k cap ((xs.take k).map (Value.int .i64)) rfl HTL.out HTC.out (ints_one _) (by unfold maxLen; omega) (by omega) (Nat.le_refl _) ?_)
            | go_in)
          intro v4 w4 hown4 hgrow4 hnil4
          have hb4 : Below w.heap.size w w4 := (Below.refl _ _).grown hgrow4 (Nat.le_refl _) (fun g hg => by cases hg)
          try simp only [List.nil_append, Nat.zero_add] at hown4
          obtain ⟨a4, c4, rfl⟩ := own_shapeT hown4
          have O4 := hide hown4
          have B4 := hide hb4
          have hz4 := hb4.size
          clear hown4 hgrow4 hnil4 hb4
          go_wp2_with (first
            | (at_builtin; refine wpList_append_own _ rfl _ _ 24 rfl w.heap.size 3 i1 (.int .i64 0) 1 8 Try.underlying24 hi1 hy0 hy1 hy2 rfl (by decide) _ _ _ rfl (O4.out.alloc _) ⟨w4.heap.size, 0, none⟩ 1 1 [.int .i64 x] rfl rfl (cell_one_new _ _ _) (by intro u hu; simp at hu; subst hu; rfl) (by unfold maxLen; omega) (by omega) (by simp; omega) ?_)
            | go_in)
          intro v5 w5 hown5 hgrow5 hnil5
          have hb5 : Below w.heap.size w w5 := B4.out.trans (((Below.refl _ _).alloc hz4 _).grown hgrow5 (by simp; omega) (fun g hg => (O4.out.lt g hg).1))
          obtain ⟨g5, c5, rfl, hc5, _⟩ := own_some hown5 (by first | exact hnil5 | (intro e; have := (hnil5.1 e).2; omega))
          have O5 := hide hown5
          have B5 := hide hb5
          have hz5 := hb5.size
          clear hown5 hgrow5 hnil5 hb5
          by_cases hko : k < cap
          · have hkoI : (k : Int) < (cap : Int) := by omega
            go_wp2_with (first
              | (at_builtin; refine wpList_append_own _ rfl _ _ 24 rfl w.heap.size 3 i1 (.int .i64 0) 1 8 Try.underlying24 hi1 hy0 hy1 hy2 rfl (by decide) _ _ _ rfl O5.out ⟨g, k, none⟩ (n - k) (cap - k) ((xs.drop k).map (Value.int .i64)) rfl HDL.out (fun j u h => (B5.out.cell (p := (⟨g, k, none⟩ : Addr).add j) (by have := hgz; unfold Addr.add; split <;> exact this)).trans (HDC.out j u h)) (ints_one _) (by unfold maxLen; omega) (by omega) hz5 ?_)
              | go_in)
            intro v6 w6 hown6 hgrow6 hnil6
            have hb6 : Below w.heap.size w w6 := B5.out.trans ((Below.refl _ _).grown hgrow6 hz5 (fun g hg => (O5.out.lt g hg).1))
            have O6 : Hid (OwnL w6 B v6 (put xs x)) := by
              refine hide ?_; rw [HP.out]; unfold OwnL
              · have e1 : (xs.take k ++ x :: xs.drop k).length = k + 1 + (n - k) := by have := HXL.out; simp; omega
                rw [e1]
                have := own_baseT hown6 hB
                simpa using this
            have B6 := hide hb6
            clear hown6 hgrow6 hnil6 hb6
            go_wp2
            go_ret
            exact ⟨_, rfl, O6.out, B6.out⟩
          · obtain rfl : k = cap := by omega
            have hnk : n = k := by omega
            have O6 : Hid (OwnL w5 B (.slice (some ⟨g5, 0, none⟩) (k + 1) c5) (put xs x)) := by
              refine hide ?_; rw [HP.out, show xs.drop k = [] from List.drop_of_length_le (by have := HXL.out; omega)]; unfold OwnL
              · have e1 : (xs.take k ++ [x]).length = k + 1 := by have := HXL.out; simp; omega
                rw [e1]
                have := own_baseT O5.out hB
                simpa using this
            subst hnk
            have hc5I : ((n : Int) + 1) ≤ (c5 : Int) := by omega
            go_wp2
            try go_simp
            try go_wp2
            go_ret
            exact ⟨_, rfl, O6.out, B5.out⟩
    · have hklI : ¬ (k : Int) < (n : Int) := by omega
      have hput : put xs x = xs.take k ++ x :: xs.drop k := by
        have e := lp_at (n := x) xs k (by rw [HXL.out]; exact hk) HJ.out (fun h => by rw [HXL.out] at h; omega)
        unfold put
        rw [e, if_neg (fun h => by have := h.1; rw [HXL.out] at this; omega)]
      have HP := hide hput
      clear hput
      have hTL : ((xs.take k).map (Value.int .i64)).length = k * 1 := by have := HXL.out; simp; omega
      have hDL : ((xs.drop k).map (Value.int .i64)).length = (n - k) * 1 := by have := HXL.out; simp; omega
      have HTL := hide hTL
      have HDL := hide hDL
      have HTC := hide (int_take HOW.out k)
      have HDC := hide (int_drop HOW.out k)
      have hkc : (k : Int) ≤ (cap : Int) := by omega
      have hkN : (k : Int) ≤ (n : Int) := by omega
      clear hTL hDL
      go_wp2_with (first
        | (at_builtin; refine wpList_append_own _ rfl _ _ 24 rfl w.heap.size 3 i1 (.int .i64 0) 1 8 Try.underlying24 hi1 hy0 hy1 hy2 rfl (by decide) (.slice none 0 0) 0 [] rfl (World.ownsRow_nil _ _ _ _) ⟨g, 0, none⟩ k cap ((xs.take k).map (Value.int .i64)) rfl HTL.out HTC.out (ints_one _) (by unfold maxLen; omega) (by omega) (Nat.le_refl _) ?_)
        | go_in)
      intro v4 w4 hown4 hgrow4 hnil4
      have hb4 : Below w.heap.size w w4 := (Below.refl _ _).grown hgrow4 (Nat.le_refl _) (fun g hg => by cases hg)
      try simp only [List.nil_append, Nat.zero_add] at hown4
      obtain ⟨a4, c4, rfl⟩ := own_shapeT hown4
      have O4 := hide hown4
      have B4 := hide hb4
      have hz4 := hb4.size
      clear hown4 hgrow4 hnil4 hb4
      go_wp2_with (first
        | (at_builtin; refine wpList_append_own _ rfl _ _ 24 rfl w.heap.size 3 i1 (.int .i64 0) 1 8 Try.underlying24 hi1 hy0 hy1 hy2 rfl (by decide) _ _ _ rfl (O4.out.alloc _) ⟨w4.heap.size, 0, none⟩ 1 1 [.int .i64 x] rfl rfl (cell_one_new _ _ _) (by intro u hu; simp at hu; subst hu; rfl) (by unfold maxLen; omega) (by omega) (by simp; omega) ?_)
        | go_in)
      intro v5 w5 hown5 hgrow5 hnil5
      have hb5 : Below w.heap.size w w5 := B4.out.trans (((Below.refl _ _).alloc hz4 _).grown hgrow5 (by simp; omega) (fun g hg => (O4.out.lt g hg).1))
      obtain ⟨g5, c5, rfl, hc5, _⟩ := own_some hown5 (by first | exact hnil5 | (intro e; have := (hnil5.1 e).2; omega))
      have O5 := hide hown5
      have B5 := hide hb5
      have hz5 := hb5.size
      clear hown5 hgrow5 hnil5 hb5
      by_cases hko : k < cap
      · have hkoI : (k : Int) < (cap : Int) := by omega
        go_wp2_with (first
          | (at_builtin; refine wpList_append_own _ rfl _ _ 24 rfl w.heap.size 3 i1 (.int .i64 0) 1 8 Try.underlying24 hi1 hy0 hy1 hy2 rfl (by decide) _ _ _ rfl O5.out ⟨g, k, none⟩ (n - k) (cap - k) ((xs.drop k).map (Value.int .i64)) rfl HDL.out (fun j u h => (B5.out.cell (p := (⟨g, k, none⟩ : Addr).add j) (by have := hgz; unfold Addr.add; split <;> exact this)).trans (HDC.out j u h)) (ints_one _) (by unfold maxLen; omega) (by omega) hz5 ?_)
          | go_in)
        intro v6 w6 hown6 hgrow6 hnil6
        have hb6 : Below w.heap.size w w6 := B5.out.trans ((Below.refl _ _).grown hgrow6 hz5 (fun g hg => (O5.out.lt g hg).1))
        have O6 : Hid (OwnL w6 B v6 (put xs x)) := by
          refine hide ?_; rw [HP.out]; unfold OwnL
          · have e1 : (xs.take k ++ x :: xs.drop k).length = k + 1 + (n - k) := by have := HXL.out; simp; omega
            rw [e1]
            have := own_baseT hown6 hB
            simpa using this
        have B6 := hide hb6
        clear hown6 hgrow6 hnil6 hb6
        go_wp2
        go_ret
        exact ⟨_, rfl, O6.out, B6.out⟩
      · obtain rfl : k = cap := by omega
        have hnk : n = k := by omega
        have O6 : Hid (OwnL w5 B (.slice (some ⟨g5, 0, none⟩) (k + 1) c5) (put xs x)) := by
          refine hide ?_; rw [HP.out, show xs.drop k = [] from List.drop_of_length_le (by have := HXL.out; omega)]; unfold OwnL
          · have e1 : (xs.take k ++ [x]).length = k + 1 := by have := HXL.out; simp; omega
            rw [e1]
            have := own_baseT O5.out hB
            simpa using this
        subst hnk
        have hc5I : ((n : Int) + 1) ≤ (c5 : Int) := by omega
        go_wp2
        try go_simp
        try go_wp2
        go_ret
        exact ⟨_, rfl, O6.out, B5.out⟩
theorem put_new (v : Value) (xs : List Int) (x : Int) (B0 : Nat) (w : World) (hm : xs.length ≤ 4000) (hnx : x ∉ xs) (h : OwnL w B0 v xs) :
    Calls Try.prog 60 #[v, .int .i64 x] w fun e w' => ∃ v', e = .returned v' ∧ OwnL w' w.heap.size v' (put xs x) ∧ Below w.heap.size w w' := by
  rcases h.2 with ⟨hv, h0⟩ | ⟨g, cap, cur, hv, _⟩
  · subst hv
    obtain rfl : xs = [] := List.eq_nil_of_length_eq_zero h0
    exact putNil x w.heap.size w (Nat.le_refl _)
  · subst hv
    exact putSomeN B0 g xs.length cap xs x w.heap.size w (Nat.le_refl _) hm rfl hnx h
end Go.Proofs.Ytkfnejiiancmhai.L4
