/-
  Contract: spec.l1Put: some list of ints, one longer at most, that the caller owns.
-/
import Derived.Test.YtkjljkfjcngkcaaL3AddSpec
namespace Go.Proofs.Ytkjljkfjcngkcaa.L3
open Go.RowKit L1
set_option linter.unusedVariables false

theorem ints_one (xs : List Int) : ∀ u ∈ xs.map (Value.int .i64), u.oneCell' = true := fun u hu => by
  obtain ⟨x, _, rfl⟩ := List.mem_map.1 hu
  rfl
theorem cell_one_newP (w : World) (p : Value) (t : TypeId) : ∀ j u, [p][j]? = some u → (w.alloc (.cells #[p] t)).cell? ((⟨w.heap.size, 0, none⟩ : Addr).add j) = some u := by
  intro j u h
  rw [addr_add]
  match j, h with
  | 0, h => simp at h; subst h; simp
  | j + 1, h => simp at h
theorem int_take {w : World} {g : Nat} {xs : List Int} {base n cap : Nat} (h : w.ownsRow base 3 1 (.slice (some ⟨g, 0, none⟩) n cap) n (xs.map (Value.int .i64))) (k : Nat) : ∀ j u, ((xs.take k).map (Value.int .i64))[j]? = some u → w.cell? ((⟨g, 0, none⟩ : Addr).add j) = some u := fun j u hu => by
  refine h.cells (g := g) rfl j u ?_
  rw [List.getElem?_map] at hu ⊢
  rw [List.getElem?_take] at hu
  split at hu
  · exact hu
  · simp at hu
theorem int_drop {w : World} {g : Nat} {xs : List Int} {base n cap : Nat} (h : w.ownsRow base 3 1 (.slice (some ⟨g, 0, none⟩) n cap) n (xs.map (Value.int .i64))) (k : Nat) : ∀ j u, ((xs.drop k).map (Value.int .i64))[j]? = some u → w.cell? ((⟨g, k, none⟩ : Addr).add j) = some u := fun j u hu => by
  have := h.cells (g := g) rfl (k + j) u (by
    rw [List.getElem?_map] at hu ⊢
    rw [List.getElem?_drop] at hu
    exact hu)
  rw [addr_add] at this
  have e0 : (⟨g, k, none⟩ : Addr).add j = ⟨g, k + j, none⟩ := by unfold Addr.add; split <;> simp_all
  rw [e0]
  exact this
theorem own_shapeP {w : World} {base n c : Nat} {t : TypeId} {v : Value} {xs : List Value} (h : w.ownsRow base t c v n xs) : ∃ a cap, v = .slice a n cap := by
  rcases h.2 with ⟨hv, h0⟩ | ⟨g, cap, cur, hv, _⟩
  · exact ⟨none, 0, by rw [hv, h0]⟩
  · exact ⟨_, cap, hv⟩
/-- Some ints that the caller owns. -/
def OwnInts (w : World) (B : Nat) (v : Value) (m : Nat) : Prop := ∃ xs : List Int, xs.length ≤ m ∧ w.ownsRow B 3 1 v xs.length (xs.map (Value.int .i64))

set_option maxRecDepth 100000 in
set_option maxHeartbeats 2000000 in
theorem put_nil (x : Int) (B : Nat) (w : World) (hB : B ≤ w.heap.size) :
    Calls Try.prog 24 #[.slice none 0 0, .int .i64 x] w fun e w' => ∃ v, e = .returned v ∧ OwnInts w' B v 1 ∧ Below w.heap.size w w' := by
  obtain ⟨i1, hi1, hy0, hy1, hy2⟩ := info_parts info_int
  go_enter Try.func24, Try.ntmps24
  go_wp2
  go_loop [5] (fun kv => kv = .int .i64 0) (fun _ => 0)
  case atStart => rfl
  case round =>
    subst hrel
    go_wp2_with (first
      | (at_builtin; refine wpList_append_own _ rfl _ _ 24 rfl B 3 i1 (.int .i64 0) 1 8 Try.underlying24 hi1 hy0 hy1 hy2 rfl (by decide) (.slice none 0 0) 0 [] rfl (World.ownsRow_nil _ _ _ _) ⟨w.heap.size, 0, none⟩ 1 1 [.int .i64 x] rfl rfl (cell_one_newP _ _ _) (by intro u hu; simp at hu; subst hu; rfl) (by unfold maxLen; omega) (by omega) (by simp; omega) ?_)
      | go_in)
    intro v6 w6 hown6 hgrow6 hnil6
    have hb6 : Below w.heap.size w w6 := ((Below.refl _ _).alloc (Nat.le_refl _) _).grown hgrow6 (by simp) (fun g hg => by cases hg)
    obtain ⟨g6, c6, rfl, hc6, _⟩ := own_some hown6 (by first | exact hnil6 | (intro e; have := (hnil6.1 e).2; omega))
    have O6 : Hid (OwnInts w6 B (.slice (some ⟨g6, 0, none⟩) 1 c6) 1) := ⟨[x], by simp, by simpa using hown6⟩
    have B6 := hide hb6
    have hc6I : (1 : Int) ≤ (c6 : Int) := by omega
    clear hown6 hgrow6 hnil6 hb6
    go_wp2
    try go_simp
    try go_wp2
    go_ret
    exact ⟨_, rfl, O6.out, B6.out⟩
set_option maxRecDepth 100000 in
set_option maxHeartbeats 4000000 in
theorem put_some (g n cap : Nat) (xs : List Int) (x : Int) (B : Nat) (w : World) (hB : B ≤ w.heap.size) (hn : n ≤ 100) (hx : xs.length = n) (ho : w.ownsRow B 3 1 (.slice (some ⟨g, 0, none⟩) n cap) n (xs.map (Value.int .i64))) :
    Calls Try.prog 24 #[.slice (some ⟨g, 0, none⟩) n cap, .int .i64 x] w fun e w' => ∃ v, e = .returned v ∧ OwnInts w' B v (n + 1) ∧ Below w.heap.size w w' := by
  obtain ⟨i1, hi1, hy0, hy1, hy2⟩ := info_parts info_int
  obtain ⟨hcap1, hcap2⟩ : n ≤ cap ∧ cap ≤ maxLen := by
    obtain ⟨g', c', e, h1, h2⟩ := own_some ho (fun e => by cases e)
    cases e
    exact ⟨h1, h2⟩
  unfold maxLen at hcap2
  have hcapI : (cap : Int) ≤ 9223372036854775807 := by omega
  have hgz := (ho.lt g rfl).2
  have SAME : Hid (OwnInts w B (.slice (some ⟨g, 0, none⟩) n cap) (n + 1)) := ⟨xs, by omega, by rw [hx]; exact ho⟩
  have HOW := hide ho
  have HXL := hide hx
  clear ho hx
  go_enter Try.func24, Try.ntmps24
  go_wp2
  go_loop [5] (fun kv => ∃ k : Nat, k ≤ n ∧ kv = .int .i64 k) (fun kv => n - (intOf kv).toNat)
  case atStart => exact ⟨0, Nat.zero_le _, rfl⟩
  case round =>
    obtain ⟨k, hk, rfl⟩ := hrel
    by_cases hkl : k < n
    · have hklI : (k : Int) < (n : Int) := by omega
      have hc := HOW.out.cellAt k (by omega)
      obtain ⟨y, hy⟩ : ∃ y : Int, w.cell? ⟨g, k, none⟩ = some (.int .i64 y) := by
        refine ⟨xs.getD k 0, hc.trans ?_⟩
        have := HXL.out
        rw [List.getElem?_map, List.getElem?_eq_getElem (by omega)]
        simp [List.getD, List.getElem?_eq_getElem (show k < xs.length by omega)]
      clear hc
      by_cases hyx : y < x
      · go_wp2
        go_round
        case rel => exact ⟨k + 1, by omega, by go_num⟩
        case measure => simp [intOf]; omega
      · by_cases hxe : y = x
        · subst hxe
          go_wp2
          go_ret
          exact ⟨_, rfl, SAME.out, Below.refl _ _⟩
        · have hxe' : (y == x) = false := by simpa using hxe
          clear hxe
          have hTL : ((xs.take k).map (Value.int .i64)).length = k * 1 := by have := HXL.out; simp; omega
          have hDL : ((xs.drop k).map (Value.int .i64)).length = (n - k) * 1 := by have := HXL.out; simp; omega
          have HTL := hide hTL
          have HDL := hide hDL
          have HTC := hide (int_take HOW.out k)
          have HDC := hide (int_drop HOW.out k)
          have hkc : (k : Int) ≤ (cap : Int) := by omega
          have hkN : (k : Int) ≤ (n : Int) := by omega
          clear hTL hDL
          go_wp2_with (first
            | (at_builtin; refine wpList_append_own _ rfl _ _ 24 rfl w.heap.size 3 i1 (.int .i64 0) 1 8 Try.underlying24 hi1 hy0 hy1 hy2 rfl (by decide) (.slice none 0 0) 0 [] rfl (World.ownsRow_nil _ _ _ _) ⟨g, 0, none⟩ k cap ((xs.take k).map (Value.int .i64)) rfl HTL.out HTC.out (ints_one _) (by unfold maxLen; omega) (by omega) (Nat.le_refl _) ?_)
            | go_in)
          intro v4 w4 hown4 hgrow4 hnil4
          have hb4 : Below w.heap.size w w4 := (Below.refl _ _).grown hgrow4 (Nat.le_refl _) (fun g hg => by cases hg)
          try simp only [List.nil_append, Nat.zero_add] at hown4
          obtain ⟨a4, c4, rfl⟩ := own_shapeP hown4
          have O4 := hide hown4
          have B4 := hide hb4
          have hz4 := hb4.size
          clear hown4 hgrow4 hnil4 hb4
          go_wp2_with (first
            | (at_builtin; refine wpList_append_own _ rfl _ _ 24 rfl w.heap.size 3 i1 (.int .i64 0) 1 8 Try.underlying24 hi1 hy0 hy1 hy2 rfl (by decide) _ _ _ rfl (O4.out.alloc _) ⟨w4.heap.size, 0, none⟩ 1 1 [.int .i64 x] rfl rfl (cell_one_newP _ _ _) (by intro u hu; simp at hu; subst hu; rfl) (by unfold maxLen; omega) (by omega) (by simp; omega) ?_)
            | go_in)
          intro v5 w5 hown5 hgrow5 hnil5
          have hb5 : Below w.heap.size w w5 := B4.out.trans (((Below.refl _ _).alloc hz4 _).grown hgrow5 (by simp; omega) (fun g hg => (O4.out.lt g hg).1))
          obtain ⟨g5, c5, rfl, hc5, _⟩ := own_some hown5 (by first | exact hnil5 | (intro e; have := (hnil5.1 e).2; omega))
          have O5 := hide hown5
          have B5 := hide hb5
          have hz5 := hb5.size
          clear hown5 hgrow5 hnil5 hb5
          by_cases hko : k < cap
          · have hkoI : (k : Int) < (cap : Int) := by omega
            go_wp2_with (first
              | (at_builtin; refine wpList_append_own _ rfl _ _ 24 rfl w.heap.size 3 i1 (.int .i64 0) 1 8 Try.underlying24 hi1 hy0 hy1 hy2 rfl (by decide) _ _ _ rfl O5.out ⟨g, k, none⟩ (n - k) (cap - k) ((xs.drop k).map (Value.int .i64)) rfl HDL.out (fun j u h => (B5.out.cell (p := (⟨g, k, none⟩ : Addr).add j) (by have := hgz; unfold Addr.add; split <;> exact this)).trans (HDC.out j u h)) (ints_one _) (by unfold maxLen; omega) (by omega) hz5 ?_)
              | go_in)
            intro v6 w6 hown6 hgrow6 hnil6
            have hb6 : Below w.heap.size w w6 := B5.out.trans ((Below.refl _ _).grown hgrow6 hz5 (fun g hg => (O5.out.lt g hg).1))
            have O6 : Hid (OwnInts w6 B v6 (n + 1)) := by
              refine ⟨xs.take k ++ x :: xs.drop k, ?_, ?_⟩
              · have := HXL.out; simp; omega
              · have e1 : (xs.take k ++ x :: xs.drop k).length = k + 1 + (n - k) := by have := HXL.out; simp; omega
                rw [e1]
                have := own_baseT hown6 hB
                simpa using this
            have B6 := hide hb6
            clear hown6 hgrow6 hnil6 hb6
            go_wp2
            go_ret
            exact ⟨_, rfl, O6.out, B6.out⟩
          · obtain rfl : k = cap := by omega
            have hnk : n = k := by omega
            have O6 : Hid (OwnInts w5 B (.slice (some ⟨g5, 0, none⟩) (k + 1) c5) (n + 1)) := by
              refine ⟨xs.take k ++ [x], ?_, ?_⟩
              · have := HXL.out; simp; omega
              · have e1 : (xs.take k ++ [x]).length = k + 1 := by have := HXL.out; simp; omega
                rw [e1]
                have := own_baseT O5.out hB
                simpa using this
            subst hnk
            have hc5I : ((n : Int) + 1) ≤ (c5 : Int) := by omega
            go_wp2
            try go_simp
            try go_wp2
            go_ret
            exact ⟨_, rfl, O6.out, B5.out⟩
    · have hklI : ¬ (k : Int) < (n : Int) := by omega
      have hTL : ((xs.take k).map (Value.int .i64)).length = k * 1 := by have := HXL.out; simp; omega
      have hDL : ((xs.drop k).map (Value.int .i64)).length = (n - k) * 1 := by have := HXL.out; simp; omega
      have HTL := hide hTL
      have HDL := hide hDL
      have HTC := hide (int_take HOW.out k)
      have HDC := hide (int_drop HOW.out k)
      have hkc : (k : Int) ≤ (cap : Int) := by omega
      have hkN : (k : Int) ≤ (n : Int) := by omega
      clear hTL hDL
      go_wp2_with (first
        | (at_builtin; refine wpList_append_own _ rfl _ _ 24 rfl w.heap.size 3 i1 (.int .i64 0) 1 8 Try.underlying24 hi1 hy0 hy1 hy2 rfl (by decide) (.slice none 0 0) 0 [] rfl (World.ownsRow_nil _ _ _ _) ⟨g, 0, none⟩ k cap ((xs.take k).map (Value.int .i64)) rfl HTL.out HTC.out (ints_one _) (by unfold maxLen; omega) (by omega) (Nat.le_refl _) ?_)
        | go_in)
      intro v4 w4 hown4 hgrow4 hnil4
      have hb4 : Below w.heap.size w w4 := (Below.refl _ _).grown hgrow4 (Nat.le_refl _) (fun g hg => by cases hg)
      try simp only [List.nil_append, Nat.zero_add] at hown4
      obtain ⟨a4, c4, rfl⟩ := own_shapeP hown4
      have O4 := hide hown4
      have B4 := hide hb4
      have hz4 := hb4.size
      clear hown4 hgrow4 hnil4 hb4
      go_wp2_with (first
        | (at_builtin; refine wpList_append_own _ rfl _ _ 24 rfl w.heap.size 3 i1 (.int .i64 0) 1 8 Try.underlying24 hi1 hy0 hy1 hy2 rfl (by decide) _ _ _ rfl (O4.out.alloc _) ⟨w4.heap.size, 0, none⟩ 1 1 [.int .i64 x] rfl rfl (cell_one_newP _ _ _) (by intro u hu; simp at hu; subst hu; rfl) (by unfold maxLen; omega) (by omega) (by simp; omega) ?_)
        | go_in)
      intro v5 w5 hown5 hgrow5 hnil5
      have hb5 : Below w.heap.size w w5 := B4.out.trans (((Below.refl _ _).alloc hz4 _).grown hgrow5 (by simp; omega) (fun g hg => (O4.out.lt g hg).1))
      obtain ⟨g5, c5, rfl, hc5, _⟩ := own_some hown5 (by first | exact hnil5 | (intro e; have := (hnil5.1 e).2; omega))
      have O5 := hide hown5
      have B5 := hide hb5
      have hz5 := hb5.size
      clear hown5 hgrow5 hnil5 hb5
      by_cases hko : k < cap
      · have hkoI : (k : Int) < (cap : Int) := by omega
        go_wp2_with (first
          | (at_builtin; refine wpList_append_own _ rfl _ _ 24 rfl w.heap.size 3 i1 (.int .i64 0) 1 8 Try.underlying24 hi1 hy0 hy1 hy2 rfl (by decide) _ _ _ rfl O5.out ⟨g, k, none⟩ (n - k) (cap - k) ((xs.drop k).map (Value.int .i64)) rfl HDL.out (fun j u h => (B5.out.cell (p := (⟨g, k, none⟩ : Addr).add j) (by have := hgz; unfold Addr.add; split <;> exact this)).trans (HDC.out j u h)) (ints_one _) (by unfold maxLen; omega) (by omega) hz5 ?_)
          | go_in)
        intro v6 w6 hown6 hgrow6 hnil6
        have hb6 : Below w.heap.size w w6 := B5.out.trans ((Below.refl _ _).grown hgrow6 hz5 (fun g hg => (O5.out.lt g hg).1))
        have O6 : Hid (OwnInts w6 B v6 (n + 1)) := by
          refine ⟨xs.take k ++ x :: xs.drop k, ?_, ?_⟩
          · have := HXL.out; simp; omega
          · have e1 : (xs.take k ++ x :: xs.drop k).length = k + 1 + (n - k) := by have := HXL.out; simp; omega
            rw [e1]
            have := own_baseT hown6 hB
            simpa using this
        have B6 := hide hb6
        clear hown6 hgrow6 hnil6 hb6
        go_wp2
        go_ret
        exact ⟨_, rfl, O6.out, B6.out⟩
      · obtain rfl : k = cap := by omega
        have hnk : n = k := by omega
        have O6 : Hid (OwnInts w5 B (.slice (some ⟨g5, 0, none⟩) (k + 1) c5) (n + 1)) := by
          refine ⟨xs.take k ++ [x], ?_, ?_⟩
          · have := HXL.out; simp; omega
          · have e1 : (xs.take k ++ [x]).length = k + 1 := by have := HXL.out; simp; omega
            rw [e1]
            have := own_baseT O5.out hB
            simpa using this
        subst hnk
        have hc5I : ((n : Int) + 1) ≤ (c5 : Int) := by omega
        go_wp2
        try go_simp
        try go_wp2
        go_ret
        exact ⟨_, rfl, O6.out, B5.out⟩
theorem put_any (v : Value) (m : Nat) (x : Int) (B : Nat) (w : World) (hB : B ≤ w.heap.size) (hm : m ≤ 100) (h : OwnInts w B v m) :
    Calls Try.prog 24 #[v, .int .i64 x] w fun e w' => ∃ v', e = .returned v' ∧ OwnInts w' B v' (m + 1) ∧ Below w.heap.size w w' := by
  obtain ⟨xs, hl, ho⟩ := h
  rcases ho.2 with ⟨hv, h0⟩ | ⟨g, cap, cur, hv, _⟩
  · subst hv
    exact (put_nil x B w hB).mono fun e w' ⟨v', he, ⟨ys, h1, h2⟩, h3⟩ => ⟨v', he, ⟨ys, by omega, h2⟩, h3⟩
  · subst hv
    exact (put_some g xs.length cap xs x B w hB (by omega) rfl ho).mono fun e w' ⟨v', he, ⟨ys, h1, h2⟩, h3⟩ => ⟨v', he, ⟨ys, by omega, h2⟩, h3⟩
end Go.Proofs.Ytkjljkfjcngkcaa.L3
