/-
  Contracts of the laws' own helpers eqIntSS, markIntSS, heldIntSS on lists of lists of ints.
-/
import Derived.Test.YtkfnejiiancmhahSSI
import Derived.Test.YtkfnejiiancmhahL1Eq
import Derived.Test.YtkfnejiiancmhahL4IntHeld
import Derived.Deep.RegionHeld3
namespace Go.Proofs.Ytkfnejiiancmhah.Own
open Go.RowKit L1 L4
set_option linter.unusedVariables false

theorem keepSS {wa wb : World} {B1 B2 O : Nat} {v1 v2 : Value} {N : Nat} {W : World} (h : wa.cell? ⟨B1, O, none⟩ = some v1 ∧ wa.cell? ⟨B2, O, none⟩ = some v2 ∧ Below N W wa) (hb : Below wa.heap.size wa wb) (hN : N ≤ W.heap.size) :
    wb.cell? ⟨B1, O, none⟩ = some v1 ∧ wb.cell? ⟨B2, O, none⟩ = some v2 ∧ Below N W wb :=
  ⟨(hb.cell (p := ⟨B1, O, none⟩) (blk_lt h.1)).trans h.1, (hb.cell (p := ⟨B2, O, none⟩) (blk_lt h.2.1)).trans h.2.1, h.2.2.trans (hb.mono (Nat.le_trans hN h.2.2.size))⟩
set_option maxRecDepth 100000 in
set_option maxHeartbeats 4000000 in
theorem eqIntSS_same (v u : Value) (n N : Nat) (G : Nat → Nat → Int) (B1 T1 B2 T2 : Nat) (w : World) (hn2 : n ≤ 1048576) (hN2 : N ≤ 1048576) (hv : SW w B1 T1 v n N G) (hu : SW w B2 T2 u n N G) :
    Calls Try.prog 16 #[v, u] w fun e w' => e = .returned (.bool true) ∧ Below w.heap.size w w' := by
  obtain ⟨bs, cs, h1⟩ := hv
  obtain ⟨bs2, cs2, h2⟩ := hu
  obtain ⟨a, c1, rfl⟩ := h1.form
  obtain ⟨b, c2, rfl⟩ := h2.form
  have H1 := hide h1
  have H2 := hide h2
  have hnn : ((n : Int) != (n : Int)) = false := by simp
  clear h1 h2
  go_enter Try.func16, Try.ntmps16
  go_wp2
  go_loopw [5] (fun i wr => ∃ k : Nat, k ≤ n ∧ i = .int .i64 k ∧ Below w.heap.size w wr) (fun i _ => n - (intOf i).toNat)
  case atStart => exact ⟨0, Nat.zero_le _, rfl, Below.refl _ _⟩
  case round =>
    obtain ⟨k, hk, rfl, hbel⟩ := hrel
    by_cases hlt : k < n
    · have q1 := H1.out.below hbel
      have q2 := H2.out.below hbel
      obtain ⟨g1, rfl, hc1⟩ := q1.addr (by omega)
      obtain ⟨g2, rfl, hc2⟩ := q2.addr (by omega)
      have e1 := hc1 k hlt
      have e2 := hc2 k hlt
      have s1 := q1.sl k hlt
      have s2 := q2.sl k hlt
      obtain ⟨d1, hd1⟩ : ∃ d, d = bs k := ⟨_, rfl⟩
      obtain ⟨d2, hd2⟩ : ∃ d, d = bs2 k := ⟨_, rfl⟩
      obtain ⟨p1, hp1⟩ : ∃ d, d = cs k := ⟨_, rfl⟩
      obtain ⟨p2, hp2⟩ : ∃ d, d = cs2 k := ⟨_, rfl⟩
      rw [← hd1] at e1 s1
      rw [← hp1] at e1
      rw [← hd2] at e2 s2
      rw [← hp2] at e2
      have CE : Hid (∀ wx, Below wr.heap.size wr wx → Calls Try.prog 25 #[.slice (some ⟨d1, 0, none⟩) N p1, .slice (some ⟨d2, 0, none⟩) N p2] wx fun e w' => e = .returned (.bool true) ∧ Below wx.heap.size wx w') := hide (fun wx hb => eqIntS_same _ _ ((List.range N).map (G k)) N p1 p2 wx (by simp) (s1.below hb) (s2.below hb) hN2)
      have hltI : (k : Int) < (n : Int) := by omega
      have hk0 : (0 : Int) ≤ (k : Int) := by omega
      clear q1 q2 hc1 hc2 s1 s2 hd1 hd2 hp1 hp2
      go_wp2
      refine wp_region_held_drew (S := (fun wx => wx.cell? ⟨g1, k, none⟩ = some (.slice (some ⟨d1, 0, none⟩) N p1) ∧ wx.cell? ⟨g2, k, none⟩ = some (.slice (some ⟨d2, 0, none⟩) N p2) ∧ Below wr.heap.size wr wx)) (by kernel_rfl) ⟨e1, e2, (Below.refl _ _).drew⟩ (fun hHeld => ?_)
      refine wpAnyH_take (i := 0) (v := ?v1) rfl (by kernel_rfl) (by kernel_rfl) (by kernel_rfl) (fun _ _ _ h => h) (Or.inl ⟨by rfl, ?y1⟩) (by assumption) ?r1
      case y1 => (intro w hSw; (try dsimp only at hSw); go_simp; try (with_reducible rfl))
      simp only [List.getElem_toArray, List.getElem_cons_zero, Act.put, List.setIfInBounds_toArray, List.set_cons_zero, List.set_cons_succ]
      refine wpAnyH_take (i := 1) (v := ?v2) rfl (by kernel_rfl) (by kernel_rfl) (by kernel_rfl) (fun _ _ _ h => h) (Or.inl ⟨by rfl, ?y2⟩) (by assumption) ?r2
      case y2 => (intro w hSw; (try dsimp only at hSw); go_simp; try (with_reducible rfl))
      simp only [List.getElem_toArray, List.getElem_cons_succ, List.getElem_cons_zero, Act.put, List.setIfInBounds_toArray, List.set_cons_zero, List.set_cons_succ]
      refine wpAnyH_take (i := 2) (v := ?v3) rfl (by kernel_rfl) (by kernel_rfl) (by kernel_rfl) (fun _ _ _ h => h) (Or.inl ⟨by rfl, ?y3⟩) (by assumption) ?r3
      case y3 => (intro w hSw; (try dsimp only at hSw); go_simp; try (with_reducible rfl))
      simp only [List.getElem_toArray, List.getElem_cons_succ, List.getElem_cons_zero, Act.put, List.setIfInBounds_toArray, List.set_cons_zero, List.set_cons_succ]
      refine wpAnyH_take (i := 3) (v := ?v4) rfl (by kernel_rfl) (by kernel_rfl) (by kernel_rfl) (fun _ _ _ h => h) (Or.inl ⟨by rfl, ?y4⟩) (by assumption) ?r4
      case y4 => (intro w hSw; (try dsimp only at hSw); go_simp; try (with_reducible rfl))
      simp only [List.getElem_toArray, List.getElem_cons_succ, List.getElem_cons_zero, Act.put, List.setIfInBounds_toArray, List.set_cons_zero, List.set_cons_succ]
      refine wpAnyH_take (i := 4) (v := ?v5) rfl (by kernel_rfl) (by kernel_rfl) (by kernel_rfl) (fun _ _ _ h => h) (Or.inl ⟨by rfl, ?y5⟩) (by assumption) ?r5
      case y5 => (intro w hSw; (try dsimp only at hSw); go_simp; try (with_reducible rfl))
      simp only [List.getElem_toArray, List.getElem_cons_succ, List.getElem_cons_zero, Act.put, List.setIfInBounds_toArray, List.set_cons_zero, List.set_cons_succ]
      refine wpAnyH_take (i := 5) (v := ?v6) rfl (by kernel_rfl) (by kernel_rfl) (by kernel_rfl) (fun _ _ _ h => h) (Or.inl ⟨by rfl, ?y6⟩) (by assumption) ?r6
      case y6 => (intro w hSw; (try dsimp only at hSw); go_simp; try (with_reducible rfl))
      simp only [List.getElem_toArray, List.getElem_cons_succ, List.getElem_cons_zero, Act.put, List.setIfInBounds_toArray, List.set_cons_zero, List.set_cons_succ]
      refine wpAnyH_take (i := 6) (v := ?v7) rfl (by kernel_rfl) (by kernel_rfl) (by kernel_rfl) (fun _ _ _ h => h) (Or.inl ⟨by rfl, ?y7⟩) (by assumption) ?r7
      case y7 => (intro w hSw; (try dsimp only at hSw); go_simp; try (with_reducible rfl))
      simp only [List.getElem_toArray, List.getElem_cons_succ, List.getElem_cons_zero, Act.put, List.setIfInBounds_toArray, List.set_cons_zero, List.set_cons_succ]
      refine wpAnyH_take (i := 7) (v := ?v8) rfl (by kernel_rfl) (by kernel_rfl) (by kernel_rfl) (fun _ _ _ h => h) (Or.inl ⟨by rfl, ?y8⟩) (by assumption) ?r8
      case y8 => (intro w hSw; (try dsimp only at hSw); go_simp; try (with_reducible rfl))
      simp only [List.getElem_toArray, List.getElem_cons_succ, List.getElem_cons_zero, Act.put, List.setIfInBounds_toArray, List.set_cons_zero, List.set_cons_succ]
      refine wpAnyH_ready (rs := [8]) (by kernel_rfl) (by simp) ?_
      refine AllReadyH.cons rfl (fun K hK => ?_) AllReadyH.nil
      simp only [List.getElem_toArray, List.getElem_cons_succ, List.getElem_cons_zero]
      go_simp
      go_at_call 25
      refine (CE.out _ hHeld.2.2).mono ?_
      rintro e w1 ⟨rfl, hb⟩
      dsimp only
      refine hK.out _ _ ?_ (fun hHeld => ?_)
      · exact keepSS hHeld hb (Nat.le_refl _)
      clear hK K
      try simp only [Act.put, List.setIfInBounds_toArray, List.set_cons_zero, List.set_cons_succ]
      refine wpAnyH_take (i := 9) (v := ?v9) rfl (by kernel_rfl) (by kernel_rfl) (by kernel_rfl) (fun _ _ _ h => h) (Or.inl ⟨by rfl, ?y9⟩) (by assumption) ?r9
      case y9 => (intro w hSw; (try dsimp only at hSw); go_simp; try (with_reducible rfl))
      simp only [List.getElem_toArray, List.getElem_cons_succ, List.getElem_cons_zero, Act.put, List.setIfInBounds_toArray, List.set_cons_zero, List.set_cons_succ]
      refine wpAnyH_done (by kernel_rfl) ?_ _
      have B1 := hide (hbel.trans (hHeld.2.2.mono hbel.size))
      clear hHeld
      go_wp2
      go_roundw
      case rel => exact ⟨k + 1, by omega, by go_num, B1.out⟩
      case measure => simp [intOf]; omega
    · have hltI : ¬ (k : Int) < (n : Int) := by omega
      go_wp2
      go_ret
      exact ⟨rfl, hbel⟩
/-- What a marked list of lists holds. -/
def mkG (N : Nat) : Nat → Nat → Int := fun i q => 1 + (i : Int) * (N : Int) + (q : Int)
/-- The first lists marked. -/
def mkP (N : Nat) (G : Nat → Nat → Int) (k : Nat) : Nat → Nat → Int := fun i => if i < k then mkG N i else G i
theorem mkC_mkG (N i : Nat) : (mkC (1 + (i : Int) * (N : Int)) N).map (Value.int .i64) = lA N (mkG N i) := by simp [mkC, lA, mkG]
theorem lA_map (N : Nat) (E : Nat → Int) : lA N E = ((List.range N).map E).map (Value.int .i64) := by simp [lA]
set_option maxRecDepth 100000 in
set_option maxHeartbeats 4000000 in
theorem markIntSS_all (v : Value) (n N : Nat) (G : Nat → Nat → Int) (B T : Nat) (w : World) (hn2 : n ≤ 1000) (hN2 : N ≤ 1000) (hv : SW w B T v n N G) :
    Calls Try.prog 18 #[v, .int .i64 1] w fun e w' => e = .returned (.int .i64 (1 + (n : Int) * (N : Int))) ∧ SW w' B T v n N (mkG N) ∧ Below B w w' := by
  obtain ⟨bs, cs, h1⟩ := hv
  obtain ⟨a, c1, rfl⟩ := h1.form
  have H1 := hide h1
  clear h1
  go_enter Try.func18, Try.ntmps18
  go_wp2
  go_loopw [1, 5] (fun kv i wr => ∃ k : Nat, k ≤ n ∧ i = .int .i64 k ∧ kv = .int .i64 (1 + (k : Int) * (N : Int)) ∧ Hid (SV wr B T (.slice a n c1) n N bs cs (mkP N G k)) ∧ Hid (Below B w wr)) (fun _ i _ => n - (intOf i).toNat)
  case atStart => exact ⟨0, Nat.zero_le _, rfl, by simp, H1, Below.refl _ _⟩
  case round =>
    obtain ⟨k, hk, rfl, rfl, HV, HB⟩ := hrel
    by_cases hlt : k < n
    · obtain ⟨g1, hae, hc1⟩ := HV.out.addr (by omega)
      have e1 := hc1 k hlt
      have hr := HV.out.row k hlt
      have hge := (hr.lt (bs k) rfl).1
      have hltI : (k : Int) < (n : Int) := by omega
      have hk0 : (0 : Int) ≤ (k : Int) := by omega
      have hcb : (k : Int) * (N : Int) ≤ 1000000 := by
        have h1 : (k : Int) ≤ 1000 := by omega
        have h2 : (N : Int) ≤ 1000 := by omega
        have h3 : (k : Int) * (N : Int) ≤ 1000 * 1000 := Int.mul_le_mul h1 h2 (by omega) (by omega)
        omega
      have hc0 : 0 ≤ (k : Int) * (N : Int) := Int.mul_nonneg (by omega) (by omega)
      have hnx : 1 + (k : Int) * (N : Int) + (N : Int) = 1 + ((k + 1 : Nat) : Int) * (N : Int) := by
        rw [Int.natCast_add, Int.add_mul]; simp; omega
      obtain ⟨d1, hd1⟩ : ∃ d, d = bs k := ⟨_, rfl⟩
      obtain ⟨p1, hp1⟩ : ∃ d, d = cs k := ⟨_, rfl⟩
      rw [lA_map] at hr
      have CM := hide (markIntS_from B (.slice (some ⟨d1, 0, none⟩) N p1) ((List.range N).map (mkP N G k k)) N wr (1 + (k : Int) * (N : Int)) (by omega) (by omega) (by omega) (by rw [hd1, hp1]; exact hr))
      rw [← hd1, ← hp1] at e1
      obtain ⟨c, hc⟩ : ∃ c, c = 1 + (k : Int) * (N : Int) := ⟨_, rfl⟩
      rw [← hc] at CM hnx ⊢
      have HNX := hide hnx
      have HD := hide hd1
      have HPP := hide hp1
      have HC := hide hc
      have HAE := hide hae
      clear hc1 hr hd1 hp1 hc hnx hae hcb hc0
      have HV2 := HV
      have e1' : a = some ⟨g1, 0, none⟩ := HAE.out
      subst e1'
      go_wp2_with fail
      refine CM.out.mono ?_
      rintro e w1 ⟨rfl, ho, hb, hg⟩
      have H7 : Hid (SV w1 B T (.slice (some ⟨g1, 0, none⟩) n c1) n N bs cs (mkP N G (k + 1))) := hide (by
        have hV := HV.out
        have hgk : ∀ q, q < wr.heap.size → q ≠ bs k → w1.heap[q]? = wr.heap[q]? := fun q h1 h2 => hg.block q h1 (by simp [Value.ownBlock]; rw [HD.out]; exact h2)
        refine ⟨own_blkS hV.out (fun q hq => hgk q ((hV.out.lt q hq).2) (fun e => hV.two k hlt (by rw [← e]; exact hq))), hV.top, fun i hi => ?_, hV.rtop, hV.inj⟩
        by_cases e : i = k
        · subst e
          have h3 : mkP N G (i + 1) i = mkG N i := by unfold mkP; rw [if_pos (by omega)]
          rw [h3, ← mkC_mkG, ← HC.out, ← HD.out, ← HPP.out]
          exact ho
        · have h3 : mkP N G (k + 1) i = mkP N G k i := by
            unfold mkP
            by_cases h4 : i < k
            · rw [if_pos h4, if_pos (by omega)]
            · rw [if_neg h4, if_neg (by omega)]
          rw [h3]
          exact own_blkS (hV.row i hi) (fun q hq => by
            have h5 : bs i = q := by simpa [Value.ownBlock] using hq
            rw [← h5]
            exact hgk (bs i) (((hV.row i hi).lt (bs i) rfl).2) (fun h6 => e (hV.inj i k hi hlt h6))))
      have B7 := hide (HB.out.trans hb)
      clear ho hb hg HV HV2
      go_wp2
      go_roundw
      case rel => exact ⟨k + 1, by omega, by go_num, by rw [HNX.out], H7, B7⟩
      case measure => simp [intOf]; omega
    · obtain rfl : k = n := by omega
      have hltI : ¬ (k : Int) < (k : Int) := by omega
      have H9 : Hid (SW wr B T (.slice a k c1) k N (mkG N)) := hide ⟨bs, cs, HV.out.out, HV.out.top, fun i hi => by
        have := HV.out.row i hi
        have h3 : mkP N G k i = mkG N i := by unfold mkP; rw [if_pos hi]
        rw [h3] at this
        exact this, HV.out.rtop, HV.out.inj⟩
      obtain ⟨c, hc⟩ : ∃ c, c = 1 + (k : Int) * (N : Int) := ⟨_, rfl⟩
      rw [← hc]
      have HCE := hide hc
      clear HV hc
      go_wp2
      go_ret
      exact ⟨by rw [← HCE.out]; rfl, H9.out, HB.out⟩
set_option maxRecDepth 100000 in
set_option maxHeartbeats 4000000 in
theorem heldIntSS_any (v : Value) (n N B T : Nat) (w : World) (hn2 : n ≤ 1000) (hN2 : N ≤ 1000) (hv : SW w B T v n N (mkG N)) :
    Calls Try.prog 19 #[v, .int .i64 1] w fun e w' => e = .returned (.int .i64 (1 + (n : Int) * (N : Int))) ∧ Below w.heap.size w w' := by
  obtain ⟨bs, cs, h1⟩ := hv
  obtain ⟨a, c1, rfl⟩ := h1.form
  have H1 := hide h1
  clear h1
  go_enter Try.func19, Try.ntmps19
  go_wp2
  go_loopw [1, 5] (fun kv i wr => ∃ k : Nat, k ≤ n ∧ i = .int .i64 k ∧ kv = .int .i64 (1 + (k : Int) * (N : Int)) ∧ Below w.heap.size w wr) (fun _ i _ => n - (intOf i).toNat)
  case atStart => exact ⟨0, Nat.zero_le _, rfl, by simp, Below.refl _ _⟩
  case round =>
    obtain ⟨k, hk, rfl, rfl, hbel⟩ := hrel
    by_cases hlt : k < n
    · have q1 := H1.out.below hbel
      obtain ⟨g1, rfl, hc1⟩ := q1.addr (by omega)
      have e1 := hc1 k hlt
      have s1 := q1.sl k hlt
      have hltI : (k : Int) < (n : Int) := by omega
      have hk0 : (0 : Int) ≤ (k : Int) := by omega
      have hcb : (k : Int) * (N : Int) ≤ 1000000 := by
        have h1 : (k : Int) ≤ 1000 := by omega
        have h2 : (N : Int) ≤ 1000 := by omega
        have h3 : (k : Int) * (N : Int) ≤ 1000 * 1000 := Int.mul_le_mul h1 h2 (by omega) (by omega)
        omega
      have hc0 : 0 ≤ (k : Int) * (N : Int) := Int.mul_nonneg (by omega) (by omega)
      have hnx : 1 + (k : Int) * (N : Int) + (N : Int) = 1 + ((k + 1 : Nat) : Int) * (N : Int) := by
        rw [Int.natCast_add, Int.add_mul]; simp; omega
      have hgm : (List.range N).map (mkG N k) = mkC (1 + (k : Int) * (N : Int)) N := by simp [mkC, mkG]
      rw [hgm] at s1
      obtain ⟨d1, hd1⟩ : ∃ d, d = bs k := ⟨_, rfl⟩
      obtain ⟨p1, hp1⟩ : ∃ d, d = cs k := ⟨_, rfl⟩
      rw [← hd1] at e1 s1
      rw [← hp1] at e1
      have CH := hide (heldIntS_from (some ⟨d1, 0, none⟩) N p1 (1 + (k : Int) * (N : Int)) wr (by omega) (by omega) (by omega) s1)
      obtain ⟨c, hc⟩ : ∃ c, c = 1 + (k : Int) * (N : Int) := ⟨_, rfl⟩
      have hcn : ¬ (c + (N : Int)) < 0 := by omega
      rw [← hc] at CH hnx ⊢
      have HNX := hide hnx
      have HB := hide hbel
      clear q1 hc1 s1 hd1 hp1 hc hnx hcb hc0 hgm hbel
      go_wp2_with fail
      refine CH.out.mono ?_
      rintro e w1 ⟨rfl, hb⟩
      have B1 := hide (HB.out.trans (hb.mono HB.out.size))
      clear hb
      go_wp2
      go_roundw
      case rel => exact ⟨k + 1, by omega, by go_num, by rw [HNX.out], B1.out⟩
      case measure => simp [intOf]; omega
    · obtain rfl : k = n := by omega
      have hltI : ¬ (k : Int) < (k : Int) := by omega
      obtain ⟨c, hc⟩ : ∃ c, c = 1 + (k : Int) * (N : Int) := ⟨_, rfl⟩
      rw [← hc]
      have HCE := hide hc
      clear hc
      go_wp2
      go_ret
      exact ⟨by rw [← HCE.out]; rfl, hbel⟩
end Go.Proofs.Ytkfnejiiancmhah.Own
