/-
  Contract: spec.IsOverlap: whether two majorities have a node in common.
-/
import Derived.Test.YtapffbbmofhpobdL8Over
namespace Go.Proofs.Ytapffbbmofhpobd.L8
open Go.RowKit L1 L4
set_option linter.unusedVariables false

set_option maxRecDepth 100000 in
set_option maxHeartbeats 1000000 in
theorem specIsOverlap_any (N : Int) (a : Option Addr) (xs : List Int) (n cap : Nat) (b : Option Addr) (ys : List Int) (n2 cap2 : Nat) (w : World) (hn : xs.length = n) (hs : SlC w a n cap xs) (hn2 : n ≤ 1048576) (hm : ys.length = n2) (ht : SlC w b n2 cap2 ys) (hm2 : n2 ≤ 1048576) (r0 r1 : Bool) (hr1 : r1 = true ↔ OvC N xs ys) (hr0 : r0 = true ↔ OvC N xs ys ∧ ∃ x ∈ xs, x ∈ ys) :
    Calls Try.prog 6 #[.int .i64 N, .slice a n cap, .slice b n2 cap2] w fun e w' => e = .returned (.tuple #[.bool r0, .bool r1]) ∧ Below w.heap.size w w' := by
  by_cases h1 : 1 ≤ N ∧ N ≤ 5
  · have C1 := hide (fun w => l1In_any N 1 5 w true (by simp [h1]))
    obtain ⟨m, hmj⟩ := majP_ex (N := N) h1.1 h1.2
    have huniq : ∀ m', MajP N m' → m' = m := fun m' h' => by unfold MajP at hmj h'; omega
    have CM := hide (fun w => l8Majority_any N m w hmj)
    obtain ⟨h1a, h1b⟩ := h1
    by_cases h3 : RN N xs
    · have C3 := hide (l8Rising_any a xs n cap N w hn hs.sl hn2 true (by simp [h3]) (N - 1) rfl (by omega) (by omega))
      by_cases h4 : RN N ys
      · have C4 := hide (l8Rising_any b ys n2 cap2 N w hm ht.sl hm2 true (by simp [h4]) (N - 1) rfl (by omega) (by omega))
        by_cases h5 : (n : Int) < m
        · have hno : ¬ OvC N xs ys := fun h => by
            obtain ⟨_, _, m', hm', ⟨_, h'⟩, _⟩ := h
            rw [huniq m' hm', hn] at h'
            omega
          have H1 := hide (bool_noT hr1 hno)
          have H0 := hide (bool_noT hr0 (fun h => hno h.1))
          clear hr1 hr0 hno hn hs hm ht h3 h4 hmj huniq
          go_enter Try.func6, Try.ntmps6
          go_wp2_with fail
          refine (C1.out _).mono ?_
          rintro e w1 ⟨rfl, rfl⟩
          go_wp2_with fail
          refine C3.out.mono ?_
          rintro e w1 ⟨rfl, rfl⟩
          go_wp2_with fail
          refine C4.out.mono ?_
          rintro e w1 ⟨rfl, rfl⟩
          go_wp2_with fail
          refine (CM.out _).mono ?_
          rintro e w1 ⟨rfl, rfl⟩
          go_wp2
          go_ret2
          exact ⟨by rw [H1.out, H0.out]; rfl, Below.refl _ _⟩
        by_cases h6 : (n2 : Int) < m
        · have hno : ¬ OvC N xs ys := fun h => by
            obtain ⟨_, _, m', hm', _, _, h'⟩ := h
            rw [huniq m' hm', hm] at h'
            omega
          have H1 := hide (bool_noT hr1 hno)
          have H0 := hide (bool_noT hr0 (fun h => hno h.1))
          clear hr1 hr0 hno hn hs hm ht h3 h4 hmj huniq
          go_enter Try.func6, Try.ntmps6
          go_wp2_with fail
          refine (C1.out _).mono ?_
          rintro e w1 ⟨rfl, rfl⟩
          go_wp2_with fail
          refine C3.out.mono ?_
          rintro e w1 ⟨rfl, rfl⟩
          go_wp2_with fail
          refine C4.out.mono ?_
          rintro e w1 ⟨rfl, rfl⟩
          go_wp2_with fail
          refine (CM.out _).mono ?_
          rintro e w1 ⟨rfl, rfl⟩
          go_wp2_with fail
          refine (CM.out _).mono ?_
          rintro e w1 ⟨rfl, rfl⟩
          go_wp2
          go_ret2
          exact ⟨by rw [H1.out, H0.out]; rfl, Below.refl _ _⟩
        have hov : OvC N xs ys := ⟨h1a, h1b, m, hmj, ⟨h3, by rw [hn]; omega⟩, ⟨h4, by rw [hm]; omega⟩⟩
        have H1 := hide (hr1.2 hov)
        have HR : Hid (r0 = true ↔ ∃ x ∈ xs, x ∈ ys) := hide (by rw [hr0]; simp [hov])
        have HS := hide hs
        have HT := hide ht
        have HN := hide hn
        have HM := hide hm
        clear hr1 hr0 hov hn hs hm ht h3 h4 hmj huniq
        go_enter Try.func6, Try.ntmps6
        go_wp2_with fail
        refine (C1.out _).mono ?_
        rintro e w1 ⟨rfl, rfl⟩
        go_wp2_with fail
        refine C3.out.mono ?_
        rintro e w1 ⟨rfl, rfl⟩
        go_wp2_with fail
        refine C4.out.mono ?_
        rintro e w1 ⟨rfl, rfl⟩
        go_wp2_with fail
        refine (CM.out _).mono ?_
        rintro e w1 ⟨rfl, rfl⟩
        go_wp2_with fail
        refine (CM.out _).mono ?_
        rintro e w1 ⟨rfl, rfl⟩
        go_wp2
        go_loopw [41] (fun i wr => ∃ k : Nat, k ≤ n ∧ i = .int .i64 k ∧ Hid (∀ j, j < k → xs.getD j 0 ∉ ys) ∧ Below w.heap.size w wr) (fun i _ => n - (intOf i).toNat)
        case atStart => exact ⟨0, Nat.zero_le _, rfl, fun j hj => absurd hj (Nat.not_lt_zero _), Below.refl _ _⟩
        case round =>
          obtain ⟨k, hk, rfl, HJ, hbel⟩ := hrel
          by_cases hlt : k < n
          · obtain ⟨b1, off, rfl, hc0⟩ := HS.out.sl k (by rw [HN.out]; exact hlt)
            have hc := (hbel.cell (p := ⟨b1, off + k, none⟩) (blk_lt hc0)).trans hc0
            have hltI : (k : Int) < (n : Int) := by omega
            have hmem : xs.getD k 0 ∈ xs := getD_mem (by rw [HN.out]; exact hlt)
            obtain ⟨x, hx⟩ : ∃ x, x = xs.getD k 0 := ⟨_, rfl⟩
            rw [← hx] at hc hmem
            have HX := hide hx.symm
            have HB0 := hide hbel
            clear hx hc0 hbel
            by_cases hin : x ∈ ys
            · have HR0 := hide (HR.out.2 ⟨x, hmem, hin⟩)
              have C7 := hide (l1Has_any b ys n2 cap2 x wr HM.out ((HT.out.below HB0.out).sl) hm2 true (by simp [hin]))
              clear hin hmem
              go_wp2_with fail
              refine C7.out.mono ?_
              rintro e w1 ⟨rfl, hb⟩
              go_wp2
              go_ret2
              exact ⟨by rw [H1.out, HR0.out]; rfl, HB0.out.trans (hb.mono HB0.out.size)⟩
            · have C7 := hide (l1Has_any b ys n2 cap2 x wr HM.out ((HT.out.below HB0.out).sl) hm2 false (by simp [hin]))
              have HI := hide hin
              clear hin hmem
              go_wp2_with fail
              refine C7.out.mono ?_
              rintro e w1 ⟨rfl, hb⟩
              have hb2 := HB0.out.trans (hb.mono HB0.out.size)
              clear hb
              go_wp2
              go_roundw
              case rel =>
                refine ⟨k + 1, by omega, by go_num, ?_, hb2⟩
                intro j hj
                by_cases e : j = k
                · subst e; rw [HX.out]; exact HI.out
                · exact HJ.out j (by omega)
              case measure => simp [intOf]; omega
          · have hltI : ¬ (k : Int) < (n : Int) := by omega
            have hno : ¬ ∃ x ∈ xs, x ∈ ys := fun ⟨x, hx, hy⟩ => by
              obtain ⟨j, hj, e⟩ := mem_getD hx
              exact HJ.out j (by rw [HN.out] at hj; omega) (by rw [e]; exact hy)
            have HR0 := hide (bool_noT HR.out hno)
            clear hno
            go_wp2
            go_ret2
            exact ⟨by rw [H1.out, HR0.out]; rfl, hbel⟩
      · have C4 := hide (l8Rising_any b ys n2 cap2 N w hm ht.sl hm2 false (by simp [h4]) (N - 1) rfl (by omega) (by omega))
        have hno : ¬ OvC N xs ys := fun h => by
          obtain ⟨_, _, _, _, _, h', _⟩ := h
          exact h4 h'
        have H1 := hide (bool_noT hr1 hno)
        have H0 := hide (bool_noT hr0 (fun h => hno h.1))
        clear hr1 hr0 hno hn hs hm ht h3 h4 hmj huniq
        go_enter Try.func6, Try.ntmps6
        go_wp2_with fail
        refine (C1.out _).mono ?_
        rintro e w1 ⟨rfl, rfl⟩
        go_wp2_with fail
        refine C3.out.mono ?_
        rintro e w1 ⟨rfl, rfl⟩
        go_wp2_with fail
        refine C4.out.mono ?_
        rintro e w1 ⟨rfl, rfl⟩
        go_wp2
        go_ret2
        exact ⟨by rw [H1.out, H0.out]; rfl, Below.refl _ _⟩
    · have C3 := hide (l8Rising_any a xs n cap N w hn hs.sl hn2 false (by simp [h3]) (N - 1) rfl (by omega) (by omega))
      have hno : ¬ OvC N xs ys := fun h => by
        obtain ⟨_, _, _, _, ⟨h', _⟩, _⟩ := h
        exact h3 h'
      have H1 := hide (bool_noT hr1 hno)
      have H0 := hide (bool_noT hr0 (fun h => hno h.1))
      clear hr1 hr0 hno hn hs hm ht h3 hmj huniq
      go_enter Try.func6, Try.ntmps6
      go_wp2_with fail
      refine (C1.out _).mono ?_
      rintro e w1 ⟨rfl, rfl⟩
      go_wp2_with fail
      refine C3.out.mono ?_
      rintro e w1 ⟨rfl, rfl⟩
      go_wp2
      go_ret2
      exact ⟨by rw [H1.out, H0.out]; rfl, Below.refl _ _⟩
  · have C1 := hide (fun w => l1In_any N 1 5 w false (by simp; omega))
    have hno : ¬ OvC N xs ys := fun h => by
      exact h1 ⟨h.1, h.2.1⟩
    have H1 := hide (bool_noT hr1 hno)
    have H0 := hide (bool_noT hr0 (fun h => hno h.1))
    clear hr1 hr0 hno hn hs hm ht h1
    go_enter Try.func6, Try.ntmps6
    go_wp2_with fail
    refine (C1.out _).mono ?_
    rintro e w1 ⟨rfl, rfl⟩
    go_wp2
    go_ret2
    exact ⟨by rw [H1.out, H0.out]; rfl, Below.refl _ _⟩
end Go.Proofs.Ytapffbbmofhpobd.L8
