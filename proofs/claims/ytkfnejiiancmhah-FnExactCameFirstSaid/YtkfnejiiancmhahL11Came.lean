/-
  Contract: impl.CameFirst.
-/
import Derived.Test.YtkfnejiiancmhahL11CutM
import Derived.Test.YtkfnejiiancmhahL11Clocks
import Derived.Test.YtkfnejiiancmhahL11Less
namespace Go.Proofs.Ytkfnejiiancmhah.L11
open Go.RowKit L1 Own
set_option linter.unusedVariables false

/-- Two events are asked for. -/
def CFok (N : Int) (l : List Ev) (A B : Int) : Prop := GoodV N l ∧ (0 ≤ A ∧ A < (l.length : Int)) ∧ (0 ≤ B ∧ B < (l.length : Int))
set_option maxRecDepth 100000 in
set_option maxHeartbeats 4000000 in
theorem cameFirst_any (N : Int) (a : Option Addr) (l : List (Int × Int)) (n cap : Nat) (A B : Int) (w : World) (hn : l.length = n) (hs : Sl2 w a l) (hn2 : n ≤ 1048576) (c r : Bool) (hc : c = true ↔ CFok N l A B) (hr : r = true ↔ CFok N l A B ∧ Anc l A.toNat B.toNat) :
    Calls Try.prog 21 #[.int .i64 N, .slice a n cap, .int .i64 A, .int .i64 B] w fun e w' => e = .returned (.tuple #[.bool r, .bool c]) ∧ Below w.heap.size w w' := by
  have hrc : c = false → r = false := fun e => by
    subst e
    cases r with
    | false => rfl
    | true => exact absurd (hc.2 (hr.1 rfl).1) (by simp)
  by_cases hg : GoodV N l
  case neg =>
    have CG := hide (fun w hs => goodEvents_any N a l n cap w hn hs hn2 false (by simp [hg]))
    obtain rfl : c = false := by
      cases c with
      | false => rfl
      | true => exact absurd (hc.1 rfl) (fun h => hg h.1)
    obtain rfl := hrc rfl
    have HS := hide hs
    clear hg hc hr hrc hs hn
    go_enter Try.func21, Try.ntmps21
    go_wp2_with fail
    refine (CG.out _ HS.out).mono ?_
    rintro e w1 ⟨rfl, hb1⟩
    have B1 := hide hb1
    clear hb1
    go_wp2
    go_ret2
    exact ⟨rfl, B1.out⟩
  have CG := hide (fun w hs => goodEvents_any N a l n cap w hn hs hn2 true (by simp [hg]))
  by_cases hA : 0 ≤ A ∧ A < (n : Int)
  case neg =>
    have CA := hide (fun w => isBelow_any A (n : Int) w false (by simp; omega))
    obtain rfl : c = false := by
      cases c with
      | false => rfl
      | true => exact absurd (hc.1 rfl) (fun h => hA (by rw [← hn]; exact h.2.1))
    obtain rfl := hrc rfl
    have HS := hide hs
    clear hg hc hr hrc hs hn hA
    go_enter Try.func21, Try.ntmps21
    go_wp2_with fail
    refine (CG.out _ HS.out).mono ?_
    rintro e w1 ⟨rfl, hb1⟩
    have B1 := hide hb1
    clear hb1
    go_wp2_with fail
    refine (CA.out _).mono ?_
    rintro e w2 ⟨rfl, rfl⟩
    go_wp2
    go_ret2
    exact ⟨rfl, B1.out⟩
  have CA := hide (fun w => isBelow_any A (n : Int) w true (by simp; omega))
  by_cases hB : 0 ≤ B ∧ B < (n : Int)
  case neg =>
    have CB := hide (fun w => isBelow_any B (n : Int) w false (by simp; omega))
    obtain rfl : c = false := by
      cases c with
      | false => rfl
      | true => exact absurd (hc.1 rfl) (fun h => hB (by rw [← hn]; exact h.2.2))
    obtain rfl := hrc rfl
    have HS := hide hs
    clear hg hc hr hrc hs hn hA hB
    go_enter Try.func21, Try.ntmps21
    go_wp2_with fail
    refine (CG.out _ HS.out).mono ?_
    rintro e w1 ⟨rfl, hb1⟩
    have B1 := hide hb1
    clear hb1
    go_wp2_with fail
    refine (CA.out _).mono ?_
    rintro e w2 ⟨rfl, rfl⟩
    go_wp2_with fail
    refine (CB.out _).mono ?_
    rintro e w2 ⟨rfl, rfl⟩
    go_wp2
    go_ret2
    exact ⟨rfl, B1.out⟩
  have CB := hide (fun w => isBelow_any B (n : Int) w true (by simp; omega))
  obtain ⟨An, hAn⟩ : ∃ An : Nat, A = (An : Int) := ⟨A.toNat, by omega⟩
  obtain ⟨Bn, hBn⟩ : ∃ Bn : Nat, B = (Bn : Int) := ⟨B.toNat, by omega⟩
  subst hAn
  subst hBn
  have hAl : An < n := by omega
  have hBl : Bn < n := by omega
  have hok : CFok N l An Bn := ⟨hg, by rw [hn]; exact hA, by rw [hn]; exact hB⟩
  obtain rfl : c = true := hc.2 hok
  have CC := hide (fun w hs => clocksOf_any N a l n cap w hn hs hg)
  have CL := hide (fun w => isLess_any (cE l An) (cE l Bn) w r (by
    rw [hr]
    refine Iff.trans ⟨fun h => h.2, fun h => ⟨hok, h⟩⟩ ?_
    exact (anc_cE hg An Bn (by omega) (by omega)).symm))
  have HS := hide hs
  have hAI : (An : Int) < (n : Int) := by omega
  have hA0 : (0 : Int) ≤ (An : Int) := by omega
  have hBI : (Bn : Int) < (n : Int) := by omega
  have hB0 : (0 : Int) ≤ (Bn : Int) := by omega
  clear hg hc hr hrc hs hn hA hB hok
  go_enter Try.func21, Try.ntmps21
  go_wp2_with fail
  refine (CG.out _ HS.out).mono ?_
  rintro e w1 ⟨rfl, hb1⟩
  have B1 := hide hb1
  clear hb1
  go_wp2_with fail
  refine (CA.out _).mono ?_
  rintro e w2 ⟨rfl, rfl⟩
  go_wp2_with fail
  refine (CB.out _).mono ?_
  rintro e w2 ⟨rfl, rfl⟩
  go_wp2_with fail
  refine (CC.out _ (HS.out.below B1.out)).mono ?_
  rintro e w3 ⟨v, rfl, ho, hb3⟩
  have B3 := hide (B1.out.trans (hb3.mono B1.out.size))
  obtain ⟨oq, ocap, rfl⟩ : ∃ oq ocap, v = .slice (some ⟨oq, 0, none⟩) n ocap := by
    rcases ho.2 with ⟨hv, h0⟩ | ⟨q, cap, cur, hv, _⟩
    · omega
    · exact ⟨q, cap, hv⟩
  have p0 := ho.cells (g := oq) rfl (An * 5 + 0) _ (flat5_get (cE l) n An 0 hAl (by omega))
  have q0 := ho.cells (g := oq) rfl (Bn * 5 + 0) _ (flat5_get (cE l) n Bn 0 hBl (by omega))
  have p1 := ho.cells (g := oq) rfl (An * 5 + 1) _ (flat5_get (cE l) n An 1 hAl (by omega))
  have q1 := ho.cells (g := oq) rfl (Bn * 5 + 1) _ (flat5_get (cE l) n Bn 1 hBl (by omega))
  have p2 := ho.cells (g := oq) rfl (An * 5 + 2) _ (flat5_get (cE l) n An 2 hAl (by omega))
  have q2 := ho.cells (g := oq) rfl (Bn * 5 + 2) _ (flat5_get (cE l) n Bn 2 hBl (by omega))
  have p3 := ho.cells (g := oq) rfl (An * 5 + 3) _ (flat5_get (cE l) n An 3 hAl (by omega))
  have q3 := ho.cells (g := oq) rfl (Bn * 5 + 3) _ (flat5_get (cE l) n Bn 3 hBl (by omega))
  have p4 := ho.cells (g := oq) rfl (An * 5 + 4) _ (flat5_get (cE l) n An 4 hAl (by omega))
  have q4 := ho.cells (g := oq) rfl (Bn * 5 + 4) _ (flat5_get (cE l) n Bn 4 hBl (by omega))
  rw [addr_add] at p0 p1 p2 p3 p4 q0 q1 q2 q3 q4
  simp only [Nat.add_zero] at p0 p1 p2 p3 p4 q0 q1 q2 q3 q4
  obtain ⟨E, hE⟩ : ∃ E : Nat → Int, E = cE l An := ⟨_, rfl⟩
  obtain ⟨F, hF⟩ : ∃ F : Nat → Int, F = cE l Bn := ⟨_, rfl⟩
  rw [← hE] at p0 p1 p2 p3 p4 CL
  rw [← hF] at q0 q1 q2 q3 q4 CL
  clear ho hb3 hE hF CC CA CB CG B1
  go_upto_region 4 with fail
  refine wp_region_held_drew (S := (fun wx => wx.cell? ⟨oq, An * 5, none⟩ = some (.int .i64 (E 0)) ∧ wx.cell? ⟨oq, An * 5 + 1, none⟩ = some (.int .i64 (E 1)) ∧ wx.cell? ⟨oq, An * 5 + 2, none⟩ = some (.int .i64 (E 2)) ∧ wx.cell? ⟨oq, An * 5 + 3, none⟩ = some (.int .i64 (E 3)) ∧ wx.cell? ⟨oq, An * 5 + 4, none⟩ = some (.int .i64 (E 4)) ∧ wx.cell? ⟨oq, Bn * 5, none⟩ = some (.int .i64 (F 0)) ∧ wx.cell? ⟨oq, Bn * 5 + 1, none⟩ = some (.int .i64 (F 1)) ∧ wx.cell? ⟨oq, Bn * 5 + 2, none⟩ = some (.int .i64 (F 2)) ∧ wx.cell? ⟨oq, Bn * 5 + 3, none⟩ = some (.int .i64 (F 3)) ∧ wx.cell? ⟨oq, Bn * 5 + 4, none⟩ = some (.int .i64 (F 4)) ∧ Below w3.heap.size w3 wx)) (by kernel_rfl) ⟨p0, p1, p2, p3, p4, q0, q1, q2, q3, q4, (Below.refl _ _).drew⟩ (fun hHeld => ?_)
  refine wpAnyH_take (i := 0) (v := ?v1) rfl (by kernel_rfl) (by kernel_rfl) (by kernel_rfl) (fun _ _ _ h => h) (Or.inl ⟨by rfl, ?y1⟩) (by assumption) ?r1
  case y1 => (intro w hSw; (try dsimp only at hSw); go_simp; try (with_reducible rfl))
  simp only [List.getElem_toArray, List.getElem_cons_zero, Act.put, List.setIfInBounds_toArray, List.set_cons_zero, List.set_cons_succ]
  refine wpAnyH_take (i := 1) (v := ?v2) rfl (by kernel_rfl) (by kernel_rfl) (by kernel_rfl) (fun _ _ _ h => h) (Or.inl ⟨by rfl, ?y2⟩) (by assumption) ?r2
  case y2 => (intro w hSw; (try dsimp only at hSw); go_simp; try (with_reducible rfl))
  simp only [List.getElem_toArray, List.getElem_cons_succ, List.getElem_cons_zero, Act.put, List.setIfInBounds_toArray, List.set_cons_zero, List.set_cons_succ]
  refine wpAnyH_take (i := 2) (v := ?v3) rfl (by kernel_rfl) (by kernel_rfl) (by kernel_rfl) (fun _ _ _ h => h) (Or.inl ⟨by rfl, ?y3⟩) (by assumption) ?r3
  case y3 => (intro w hSw; (try dsimp only at hSw); go_simp; try (with_reducible rfl))
  simp only [List.getElem_toArray, List.getElem_cons_succ, List.getElem_cons_zero, Act.put, List.setIfInBounds_toArray, List.set_cons_zero, List.set_cons_succ]
  refine wpAnyH_take (i := 3) (v := ?v4) rfl (by kernel_rfl) (by kernel_rfl) (by kernel_rfl) (fun _ _ _ h => h) (Or.inl ⟨by rfl, ?y4⟩) (by assumption) ?r4
  case y4 => (intro w hSw; (try dsimp only at hSw); go_simp; try (with_reducible rfl))
  simp only [List.getElem_toArray, List.getElem_cons_succ, List.getElem_cons_zero, Act.put, List.setIfInBounds_toArray, List.set_cons_zero, List.set_cons_succ]
  refine wpAnyH_take (i := 4) (v := ?v5) rfl (by kernel_rfl) (by kernel_rfl) (by kernel_rfl) (fun _ _ _ h => h) (Or.inl ⟨by rfl, ?y5⟩) (by assumption) ?r5
  case y5 => (intro w hSw; (try dsimp only at hSw); go_simp; try (with_reducible rfl))
  simp only [List.getElem_toArray, List.getElem_cons_succ, List.getElem_cons_zero, Act.put, List.setIfInBounds_toArray, List.set_cons_zero, List.set_cons_succ]
  refine wpAnyH_take (i := 5) (v := ?v6) rfl (by kernel_rfl) (by kernel_rfl) (by kernel_rfl) (fun _ _ _ h => h) (Or.inl ⟨by rfl, ?y6⟩) (by assumption) ?r6
  case y6 => (intro w hSw; (try dsimp only at hSw); go_simp; try (with_reducible rfl))
  simp only [List.getElem_toArray, List.getElem_cons_succ, List.getElem_cons_zero, Act.put, List.setIfInBounds_toArray, List.set_cons_zero, List.set_cons_succ]
  refine wpAnyH_take (i := 6) (v := ?v7) rfl (by kernel_rfl) (by kernel_rfl) (by kernel_rfl) (fun _ _ _ h => h) (Or.inl ⟨by rfl, ?y7⟩) (by assumption) ?r7
  case y7 => (intro w hSw; (try dsimp only at hSw); go_simp; try (with_reducible rfl))
  simp only [List.getElem_toArray, List.getElem_cons_succ, List.getElem_cons_zero, Act.put, List.setIfInBounds_toArray, List.set_cons_zero, List.set_cons_succ]
  refine wpAnyH_take (i := 7) (v := ?v8) rfl (by kernel_rfl) (by kernel_rfl) (by kernel_rfl) (fun _ _ _ h => h) (Or.inl ⟨by rfl, ?y8⟩) (by assumption) ?r8
  case y8 => (intro w hSw; (try dsimp only at hSw); go_simp; try (with_reducible rfl))
  simp only [List.getElem_toArray, List.getElem_cons_succ, List.getElem_cons_zero, Act.put, List.setIfInBounds_toArray, List.set_cons_zero, List.set_cons_succ]
  refine wpAnyH_ready (rs := [8]) (by kernel_rfl) (by simp) ?_
  refine AllReadyH.cons rfl (fun K hK => ?_) AllReadyH.nil
  simp only [List.getElem_toArray, List.getElem_cons_succ, List.getElem_cons_zero]
  go_simp
  go_at_call 42
  refine (CL.out _).mono ?_
  rintro e w4 ⟨rfl, hb4⟩
  dsimp only
  refine hK.out _ _ ?_ (fun hHeld => ?_)
  · exact ⟨(hb4.cell (p := ⟨oq, An * 5, none⟩) (blk_lt hHeld.1)).trans hHeld.1, (hb4.cell (p := ⟨oq, An * 5 + 1, none⟩) (blk_lt hHeld.2.1)).trans hHeld.2.1, (hb4.cell (p := ⟨oq, An * 5 + 2, none⟩) (blk_lt hHeld.2.2.1)).trans hHeld.2.2.1, (hb4.cell (p := ⟨oq, An * 5 + 3, none⟩) (blk_lt hHeld.2.2.2.1)).trans hHeld.2.2.2.1, (hb4.cell (p := ⟨oq, An * 5 + 4, none⟩) (blk_lt hHeld.2.2.2.2.1)).trans hHeld.2.2.2.2.1, (hb4.cell (p := ⟨oq, Bn * 5, none⟩) (blk_lt hHeld.2.2.2.2.2.1)).trans hHeld.2.2.2.2.2.1, (hb4.cell (p := ⟨oq, Bn * 5 + 1, none⟩) (blk_lt hHeld.2.2.2.2.2.2.1)).trans hHeld.2.2.2.2.2.2.1, (hb4.cell (p := ⟨oq, Bn * 5 + 2, none⟩) (blk_lt hHeld.2.2.2.2.2.2.2.1)).trans hHeld.2.2.2.2.2.2.2.1, (hb4.cell (p := ⟨oq, Bn * 5 + 3, none⟩) (blk_lt hHeld.2.2.2.2.2.2.2.2.1)).trans hHeld.2.2.2.2.2.2.2.2.1, (hb4.cell (p := ⟨oq, Bn * 5 + 4, none⟩) (blk_lt hHeld.2.2.2.2.2.2.2.2.2.1)).trans hHeld.2.2.2.2.2.2.2.2.2.1, hHeld.2.2.2.2.2.2.2.2.2.2.trans (hb4.mono hHeld.2.2.2.2.2.2.2.2.2.2.size)⟩
  clear hK K
  try simp only [Act.put, List.setIfInBounds_toArray, List.set_cons_zero, List.set_cons_succ]
  refine wpAnyH_take (i := 9) (v := ?v9) rfl (by kernel_rfl) (by kernel_rfl) (by kernel_rfl) (fun _ _ _ h => h) (Or.inl ⟨by rfl, ?y9⟩) (by assumption) ?r9
  case y9 => (intro w hSw; (try dsimp only at hSw); go_simp; try (with_reducible rfl))
  simp only [List.getElem_toArray, List.getElem_cons_succ, List.getElem_cons_zero, Act.put, List.setIfInBounds_toArray, List.set_cons_zero, List.set_cons_succ]
  refine wpAnyH_take (i := 10) (v := ?v10) rfl (by kernel_rfl) (by kernel_rfl) (by kernel_rfl) (fun _ _ _ h => h) (Or.inl ⟨by rfl, ?y10⟩) (by assumption) ?r10
  case y10 => (intro w hSw; (try dsimp only at hSw); go_simp; try (with_reducible rfl))
  simp only [List.getElem_toArray, List.getElem_cons_succ, List.getElem_cons_zero, Act.put, List.setIfInBounds_toArray, List.set_cons_zero, List.set_cons_succ]
  refine wpAnyH_done (by kernel_rfl) ?_ _
  go_wp2
  go_ret2
  exact ⟨rfl, B3.out.trans (hHeld.2.2.2.2.2.2.2.2.2.2.mono B3.out.size)⟩
end Go.Proofs.Ytkfnejiiancmhah.L11
