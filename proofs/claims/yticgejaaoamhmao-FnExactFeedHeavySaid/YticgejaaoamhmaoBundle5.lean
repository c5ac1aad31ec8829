/-
  Contract: impl.takePlace.
  Contract: impl.takeOneOff.
  Contracts: slices.Clone of texts, of ints, at least one.
  Contracts: impl.goodPlace, impl.isEmptyPlace, slices.Index of the empty text, impl.takenPlaces.
  Contract: impl.findPlace.
  Contract: impl.GoodHeavy.
  Contract: impl.AddHeavy.
  Contract: impl.FeedHeavy.
-/
import Derived.Test.YticgejaaoamhmaoBundle4
import Derived.Test.YticgejaaoamhmaoBundle2
import Derived.Deep.RegionHeld3
import Derived.Deep.DeepCutAuto
import Derived.Lib.SliceRun
import Derived.Test.YticgejaaoamhmaoBundle3
namespace Go.Proofs.Yticgejaaoamhmao.L15H
open Go.RowKit L1 Own Str
set_option linter.unusedVariables false

theorem BxH.copyN2 {w x : World} {zb base gN cN gC cC n : Nat} {G T : Int} {L1 : List ByteArray} {L2 : List Int} (k : BxH w x zb base gN cN gC cC n G T L1 L2) (p tk P1 T1 : Nat) (hP : P1 = p + 1) (hT : T1 = tk + 1) (hp : p ≤ tk) (ht : tk < n) (ty : TypeId) :
    (Builtin.copy_ #[22, 22] ty #[.slice (if cN = P1 then some ⟨gN, 0, none⟩ else some ⟨gN, P1, none⟩) (T1 - P1) (cN - P1), .slice (if cN = p then some ⟨gN, 0, none⟩ else some ⟨gN, p, none⟩) (tk - p) (cN - p)]).run Try.prog x = .ok (goInt ((tk - p : Nat) : Int)) (x.setCells gN (p + 1) (mapS ((L1.drop p).take (tk - p)))) := by
  have hc := k.capN
  subst hP
  subst hT
  rw [if_neg (show ¬ cN = p by omega), show tk + 1 - (p + 1) = tk - p by omega]
  by_cases e : p = tk
  · subst e
    simp only [Nat.sub_self, List.take_zero]
    exact run_copy_none (P := Try.prog) x 22 22 ty 9 _ _ 0 _ 0 _ apT_str.ht (apT_one apT_str) rfl
  · rw [if_neg (by omega)]
    exact k.copyN p tk _ _ hp ht ty
theorem BxH.copyC2 {w x : World} {zb base gN cN gC cC n : Nat} {G T : Int} {L1 : List ByteArray} {L2 : List Int} (k : BxH w x zb base gN cN gC cC n G T L1 L2) (p tk P1 T1 : Nat) (hP : P1 = p + 1) (hT : T1 = tk + 1) (hp : p ≤ tk) (ht : tk < n) (ty : TypeId) :
    (Builtin.copy_ #[23, 23] ty #[.slice (if cC = P1 then some ⟨gC, 0, none⟩ else some ⟨gC, P1, none⟩) (T1 - P1) (cC - P1), .slice (if cC = p then some ⟨gC, 0, none⟩ else some ⟨gC, p, none⟩) (tk - p) (cC - p)]).run Try.prog x = .ok (goInt ((tk - p : Nat) : Int)) (x.setCells gC (p + 1) (ints ((L2.drop p).take (tk - p)))) := by
  have hc := k.capC
  subst hP
  subst hT
  rw [if_neg (show ¬ cC = p by omega), show tk + 1 - (p + 1) = tk - p by omega]
  by_cases e : p = tk
  · subst e
    simp only [Nat.sub_self, List.take_zero]
    exact run_copy_none (P := Try.prog) x 23 23 ty 3 _ _ 0 _ 0 _ apT_int.ht (apT_one apT_int) rfl
  · rw [if_neg (by omega)]
    exact k.copyC p tk _ _ hp ht ty
set_option maxRecDepth 100000 in
set_option maxHeartbeats 4000000 in
theorem takePlace_any (zb base gN cN gC cC n : Nat) (G T : Int) (L1 : List ByteArray) (L2 : List Int) (w x : World) (p tk : Nat) (s : ByteArray) (k : BxH w x zb base gN cN gC cC n G T L1 L2) (hn6 : n ≤ 100000) (hp : p ≤ tk) (ht : tk < n) (h1 : ∀ j, tk ≤ j → j < n → L1.getD j e0 = e0) (h2 : ∀ j, tk ≤ j → j < n → L2.getD j 0 = 0) :
    Calls Try.prog 45 #[.pointer (some ⟨zb, 0, none⟩), .int .i64 (p : Int), .int .i64 (tk : Int), .string s] x fun e x' => e = .returned (.tuple #[]) ∧ BxH w x' zb base gN cN gC cC n G T (putL L1 p s) (putL L2 p 1) := by
  have K0 := hide k
  have hcN := k.capN
  have hcC := k.capC
  obtain ⟨P1, hP⟩ : ∃ P1, P1 = p + 1 := ⟨_, rfl⟩
  obtain ⟨T1, hT⟩ : ∃ T1, T1 = tk + 1 := ⟨_, rfl⟩
  have hp1 : (p : Int) + 1 = (P1 : Int) := by omega
  have ht1 : (tk : Int) + 1 = (T1 : Int) := by omega
  have a1 : (0 : Int) ≤ (P1 : Int) := by omega
  have a2 : (P1 : Int) ≤ (T1 : Int) := by omega
  have a3 : (T1 : Int) ≤ (cN : Int) := by omega
  have a4 : (T1 : Int) ≤ (cC : Int) := by omega
  have a5 : (0 : Int) ≤ (p : Int) := by omega
  have a6 : (p : Int) ≤ (tk : Int) := by omega
  have a7 : (tk : Int) ≤ (cN : Int) := by omega
  have a8 : (tk : Int) ≤ (cC : Int) := by omega
  have wp1 := wrapH (P1 : Int) (by omega) (by omega)
  have wt1 := wrapH (T1 : Int) (by omega) (by omega)
  have wp2 := wrapH ((p : Int) + 1) (by omega) (by omega)
  have wt2 := wrapH ((tk : Int) + 1) (by omega) (by omega)
  have HPT := hide (And.intro hP hT)
  have H12 := hide (And.intro h1 h2)
  clear k h1 h2 hP hT
  go_enter Try.func45, Try.ntmps45
  go_upto_region 0 with fail
  refine wp_region_held_drew (S := fun wx => wx.cell? ⟨zb, 0, none⟩ = some (.slice (some ⟨gN, 0, none⟩) n cN)) (by kernel_rfl) (blk4 K0.out.X).1 (fun hHeld => ?_)
  refine wpAnyH_take (i := 0) (v := ?v1) rfl (by kernel_rfl) (by kernel_rfl) (by kernel_rfl) (fun _ _ _ h => h) (Or.inl ⟨by rfl, ?y1⟩) (by assumption) ?r1
  case y1 => (intro w hSw; (try dsimp only at hSw); go_simp; try (with_reducible rfl))
  simp only [List.getElem_toArray, List.getElem_cons_zero, Act.put, List.setIfInBounds_toArray, List.set_cons_zero, List.set_cons_succ]
  refine wpAnyH_take (i := 1) (v := ?v2) rfl (by kernel_rfl) (by kernel_rfl) (by kernel_rfl) (fun _ _ _ h => h) (Or.inl ⟨by rfl, ?y2⟩) (by assumption) ?r2
  case y2 => (intro w hSw; (try dsimp only at hSw); go_simp; try (with_reducible rfl))
  simp only [List.getElem_toArray, List.getElem_cons_succ, List.getElem_cons_zero, Act.put, List.setIfInBounds_toArray, List.set_cons_zero, List.set_cons_succ]
  refine wpAnyH_take (i := 2) (v := ?v3) rfl (by kernel_rfl) (by kernel_rfl) (by kernel_rfl) (fun _ _ _ h => h) (Or.inl ⟨by rfl, ?y3⟩) (by assumption) ?r3
  case y3 => (intro w hSw; (try dsimp only at hSw); go_simp; try (with_reducible rfl))
  simp only [List.getElem_toArray, List.getElem_cons_succ, List.getElem_cons_zero, Act.put, List.setIfInBounds_toArray, List.set_cons_zero, List.set_cons_succ]
  refine wpAnyH_take (i := 3) (v := ?v4) rfl (by kernel_rfl) (by kernel_rfl) (by kernel_rfl) (fun _ _ _ h => h) (Or.inl ⟨by rfl, ?y4⟩) (by assumption) ?r4
  case y4 => (intro w hSw; (try dsimp only at hSw); go_simp; try (with_reducible rfl))
  simp only [List.getElem_toArray, List.getElem_cons_succ, List.getElem_cons_zero, Act.put, List.setIfInBounds_toArray, List.set_cons_zero, List.set_cons_succ]
  refine wpAnyH_take (i := 4) (v := ?v5) rfl (by kernel_rfl) (by kernel_rfl) (by kernel_rfl) (fun _ _ _ h => h) (Or.inl ⟨by rfl, ?y5⟩) (by assumption) ?r5
  case y5 => (intro w hSw; (try dsimp only at hSw); go_simp; try (with_reducible rfl))
  simp only [List.getElem_toArray, List.getElem_cons_succ, List.getElem_cons_zero, Act.put, List.setIfInBounds_toArray, List.set_cons_zero, List.set_cons_succ]
  refine wpAnyH_take (i := 5) (v := ?v6) rfl (by kernel_rfl) (by kernel_rfl) (by kernel_rfl) (fun _ _ _ h => h) (Or.inl ⟨by rfl, ?y6⟩) (by assumption) ?r6
  case y6 => (intro w hSw; (try dsimp only at hSw); go_simp; try (with_reducible rfl))
  simp only [List.getElem_toArray, List.getElem_cons_succ, List.getElem_cons_zero, Act.put, List.setIfInBounds_toArray, List.set_cons_zero, List.set_cons_succ]
  refine wpAnyH_take (i := 6) (v := ?v7) rfl (by kernel_rfl) (by kernel_rfl) (by kernel_rfl) (fun _ _ _ h => h) (Or.inl ⟨by rfl, ?y7⟩) (by assumption) ?r7
  case y7 => (intro w hSw; (try dsimp only at hSw); go_simp; try (with_reducible rfl))
  simp only [List.getElem_toArray, List.getElem_cons_succ, List.getElem_cons_zero, Act.put, List.setIfInBounds_toArray, List.set_cons_zero, List.set_cons_succ]
  refine wpAnyH_take (i := 7) (v := ?v8) rfl (by kernel_rfl) (by kernel_rfl) (by kernel_rfl) (fun _ _ _ h => h) (Or.inl ⟨by rfl, ?y8⟩) (by assumption) ?r8
  case y8 => (intro w hSw; (try dsimp only at hSw); go_simp; try (with_reducible rfl))
  simp only [List.getElem_toArray, List.getElem_cons_succ, List.getElem_cons_zero, Act.put, List.setIfInBounds_toArray, List.set_cons_zero, List.set_cons_succ]
  refine wpAnyH_take (i := 8) (v := ?v9) rfl (by kernel_rfl) (by kernel_rfl) (by kernel_rfl) (fun _ _ _ h => h) (Or.inl ⟨by rfl, ?y9⟩) (by assumption) ?r9
  case y9 => (intro w hSw; (try dsimp only at hSw); go_simp; try (with_reducible rfl))
  simp only [List.getElem_toArray, List.getElem_cons_succ, List.getElem_cons_zero, Act.put, List.setIfInBounds_toArray, List.set_cons_zero, List.set_cons_succ]
  refine wpAnyH_take (i := 9) (v := ?v10) rfl (by kernel_rfl) (by kernel_rfl) (by kernel_rfl) (fun _ _ _ h => h) (Or.inl ⟨by rfl, ?y10⟩) (by assumption) ?r10
  case y10 => (intro w hSw; (try dsimp only at hSw); go_simp; try (with_reducible rfl))
  simp only [List.getElem_toArray, List.getElem_cons_succ, List.getElem_cons_zero, Act.put, List.setIfInBounds_toArray, List.set_cons_zero, List.set_cons_succ]
  refine wpAnyH_take (i := 10) (v := ?v11) rfl (by kernel_rfl) (by kernel_rfl) (by kernel_rfl) (fun _ _ _ h => h) (Or.inl ⟨by rfl, ?y11⟩) (by assumption) ?r11
  case y11 => (intro w hSw; (try dsimp only at hSw); go_simp; try (with_reducible rfl))
  simp only [List.getElem_toArray, List.getElem_cons_succ, List.getElem_cons_zero, Act.put, List.setIfInBounds_toArray, List.set_cons_zero, List.set_cons_succ]
  refine wpAnyH_take (i := 11) (v := ?v12) rfl (by kernel_rfl) (by kernel_rfl) (by kernel_rfl) (fun _ _ _ h => h) (Or.inl ⟨by rfl, ?y12⟩) (by assumption) ?r12
  case y12 => (intro w hSw; (try dsimp only at hSw); go_simp; try (with_reducible rfl))
  simp only [List.getElem_toArray, List.getElem_cons_succ, List.getElem_cons_zero, Act.put, List.setIfInBounds_toArray, List.set_cons_zero, List.set_cons_succ]
  refine wpAnyH_take (i := 12) (v := ?v13) rfl (by kernel_rfl) (by kernel_rfl) (by kernel_rfl) (fun _ _ _ h => h) (Or.inl ⟨by rfl, ?y13⟩) (by assumption) ?r13
  case y13 => (intro w hSw; (try dsimp only at hSw); go_simp; try (with_reducible rfl))
  simp only [List.getElem_toArray, List.getElem_cons_succ, List.getElem_cons_zero, Act.put, List.setIfInBounds_toArray, List.set_cons_zero, List.set_cons_succ]
  refine wpAnyH_take (i := 13) (v := ?v14) rfl (by kernel_rfl) (by kernel_rfl) (by kernel_rfl) (fun _ _ _ h => h) (Or.inl ⟨by rfl, ?y14⟩) (by assumption) ?r14
  case y14 => (intro w hSw; (try dsimp only at hSw); go_simp; try (with_reducible rfl))
  simp only [List.getElem_toArray, List.getElem_cons_succ, List.getElem_cons_zero, Act.put, List.setIfInBounds_toArray, List.set_cons_zero, List.set_cons_succ]
  refine wpAnyH_take (i := 14) (v := ?v15) rfl (by kernel_rfl) (by kernel_rfl) (by kernel_rfl) (fun _ _ _ h => h) (Or.inl ⟨by rfl, ?y15⟩) (by assumption) ?r15
  case y15 => (intro w hSw; (try dsimp only at hSw); go_simp; try (with_reducible rfl))
  simp only [List.getElem_toArray, List.getElem_cons_succ, List.getElem_cons_zero, Act.put, List.setIfInBounds_toArray, List.set_cons_zero, List.set_cons_succ]
  refine wpAnyH_take (i := 15) (v := ?v16) rfl (by kernel_rfl) (by kernel_rfl) (by kernel_rfl) (fun _ _ _ h => h) (Or.inl ⟨by rfl, ?y16⟩) (by assumption) ?r16
  case y16 => (intro w hSw; (try dsimp only at hSw); go_simp; try (with_reducible rfl))
  simp only [List.getElem_toArray, List.getElem_cons_succ, List.getElem_cons_zero, Act.put, List.setIfInBounds_toArray, List.set_cons_zero, List.set_cons_succ]
  refine wpAnyH_ready (rs := [16]) (by kernel_rfl) (by simp) ?_
  refine AllReadyH.cons rfl (fun K hK => ?_) AllReadyH.nil
  simp only [List.getElem_toArray, List.getElem_cons_succ, List.getElem_cons_zero]
  rw [if_pos (show Region.wanted _ _ = true from rfl)]
  refine oper_copy_run _ _ 22 rfl _ _ rfl rfl (K0.out.drew.copyN2 p tk P1 T1 HPT.out.1 HPT.out.2 hp ht _) ?_
  obtain ⟨w1, hw1⟩ : ∃ y, y = x.drew.setCells gN (p + 1) (mapS ((L1.drop p).take (tk - p))) := ⟨_, rfl⟩
  have Kw1 := hide (show BxH w w1 zb base gN cN gC cC n G T (putAt L1 (p + 1) ((L1.drop p).take (tk - p))) L2 by rw [hw1]; exact K0.out.drew.setsN _ _)
  try rw [← hw1]
  refine hK.out _ _ ?_ (fun hHeld => ?_)
  · exact (blk4 Kw1.out.X).1
  clear hK K hw1
  try simp only [Act.put, List.setIfInBounds_toArray, List.set_cons_zero, List.set_cons_succ]
  refine wpAnyH_done (by kernel_rfl) ?_ _
  clear hHeld
  generalize (if cN = P1 then (some ⟨gN, 0, none⟩ : Option Addr) else some ⟨gN, P1, none⟩) = dN
  generalize (if cN = p then (some ⟨gN, 0, none⟩ : Option Addr) else some ⟨gN, p, none⟩) = sN
  obtain ⟨Q1, hQ1⟩ : ∃ Q1, Q1 = putAt L1 (p + 1) ((L1.drop p).take (tk - p)) := ⟨_, rfl⟩
  rw [← hQ1] at Kw1
  have HQ1 := hide hQ1
  clear hQ1
  go_upto_region 1 with fail
  refine wp_region_held_drew (S := fun wx => wx.cell? ⟨zb, 1, none⟩ = some (.slice (some ⟨gC, 0, none⟩) n cC)) (by kernel_rfl) (blk4 Kw1.out.X).2.1 (fun hHeld => ?_)
  refine wpAnyH_take (i := 0) (v := ?v17) rfl (by kernel_rfl) (by kernel_rfl) (by kernel_rfl) (fun _ _ _ h => h) (Or.inl ⟨by rfl, ?y17⟩) (by assumption) ?r17
  case y17 => (intro w hSw; (try dsimp only at hSw); go_simp; try (with_reducible rfl))
  simp only [List.getElem_toArray, List.getElem_cons_zero, Act.put, List.setIfInBounds_toArray, List.set_cons_zero, List.set_cons_succ]
  refine wpAnyH_take (i := 1) (v := ?v18) rfl (by kernel_rfl) (by kernel_rfl) (by kernel_rfl) (fun _ _ _ h => h) (Or.inl ⟨by rfl, ?y18⟩) (by assumption) ?r18
  case y18 => (intro w hSw; (try dsimp only at hSw); go_simp; try (with_reducible rfl))
  simp only [List.getElem_toArray, List.getElem_cons_succ, List.getElem_cons_zero, Act.put, List.setIfInBounds_toArray, List.set_cons_zero, List.set_cons_succ]
  refine wpAnyH_take (i := 2) (v := ?v19) rfl (by kernel_rfl) (by kernel_rfl) (by kernel_rfl) (fun _ _ _ h => h) (Or.inl ⟨by rfl, ?y19⟩) (by assumption) ?r19
  case y19 => (intro w hSw; (try dsimp only at hSw); go_simp; try (with_reducible rfl))
  simp only [List.getElem_toArray, List.getElem_cons_succ, List.getElem_cons_zero, Act.put, List.setIfInBounds_toArray, List.set_cons_zero, List.set_cons_succ]
  refine wpAnyH_take (i := 3) (v := ?v20) rfl (by kernel_rfl) (by kernel_rfl) (by kernel_rfl) (fun _ _ _ h => h) (Or.inl ⟨by rfl, ?y20⟩) (by assumption) ?r20
  case y20 => (intro w hSw; (try dsimp only at hSw); go_simp; try (with_reducible rfl))
  simp only [List.getElem_toArray, List.getElem_cons_succ, List.getElem_cons_zero, Act.put, List.setIfInBounds_toArray, List.set_cons_zero, List.set_cons_succ]
  refine wpAnyH_take (i := 4) (v := ?v21) rfl (by kernel_rfl) (by kernel_rfl) (by kernel_rfl) (fun _ _ _ h => h) (Or.inl ⟨by rfl, ?y21⟩) (by assumption) ?r21
  case y21 => (intro w hSw; (try dsimp only at hSw); go_simp; try (with_reducible rfl))
  simp only [List.getElem_toArray, List.getElem_cons_succ, List.getElem_cons_zero, Act.put, List.setIfInBounds_toArray, List.set_cons_zero, List.set_cons_succ]
  refine wpAnyH_take (i := 5) (v := ?v22) rfl (by kernel_rfl) (by kernel_rfl) (by kernel_rfl) (fun _ _ _ h => h) (Or.inl ⟨by rfl, ?y22⟩) (by assumption) ?r22
  case y22 => (intro w hSw; (try dsimp only at hSw); go_simp; try (with_reducible rfl))
  simp only [List.getElem_toArray, List.getElem_cons_succ, List.getElem_cons_zero, Act.put, List.setIfInBounds_toArray, List.set_cons_zero, List.set_cons_succ]
  refine wpAnyH_take (i := 6) (v := ?v23) rfl (by kernel_rfl) (by kernel_rfl) (by kernel_rfl) (fun _ _ _ h => h) (Or.inl ⟨by rfl, ?y23⟩) (by assumption) ?r23
  case y23 => (intro w hSw; (try dsimp only at hSw); go_simp; try (with_reducible rfl))
  simp only [List.getElem_toArray, List.getElem_cons_succ, List.getElem_cons_zero, Act.put, List.setIfInBounds_toArray, List.set_cons_zero, List.set_cons_succ]
  refine wpAnyH_take (i := 7) (v := ?v24) rfl (by kernel_rfl) (by kernel_rfl) (by kernel_rfl) (fun _ _ _ h => h) (Or.inl ⟨by rfl, ?y24⟩) (by assumption) ?r24
  case y24 => (intro w hSw; (try dsimp only at hSw); go_simp; try (with_reducible rfl))
  simp only [List.getElem_toArray, List.getElem_cons_succ, List.getElem_cons_zero, Act.put, List.setIfInBounds_toArray, List.set_cons_zero, List.set_cons_succ]
  refine wpAnyH_take (i := 8) (v := ?v25) rfl (by kernel_rfl) (by kernel_rfl) (by kernel_rfl) (fun _ _ _ h => h) (Or.inl ⟨by rfl, ?y25⟩) (by assumption) ?r25
  case y25 => (intro w hSw; (try dsimp only at hSw); go_simp; try (with_reducible rfl))
  simp only [List.getElem_toArray, List.getElem_cons_succ, List.getElem_cons_zero, Act.put, List.setIfInBounds_toArray, List.set_cons_zero, List.set_cons_succ]
  refine wpAnyH_take (i := 9) (v := ?v26) rfl (by kernel_rfl) (by kernel_rfl) (by kernel_rfl) (fun _ _ _ h => h) (Or.inl ⟨by rfl, ?y26⟩) (by assumption) ?r26
  case y26 => (intro w hSw; (try dsimp only at hSw); go_simp; try (with_reducible rfl))
  simp only [List.getElem_toArray, List.getElem_cons_succ, List.getElem_cons_zero, Act.put, List.setIfInBounds_toArray, List.set_cons_zero, List.set_cons_succ]
  refine wpAnyH_take (i := 10) (v := ?v27) rfl (by kernel_rfl) (by kernel_rfl) (by kernel_rfl) (fun _ _ _ h => h) (Or.inl ⟨by rfl, ?y27⟩) (by assumption) ?r27
  case y27 => (intro w hSw; (try dsimp only at hSw); go_simp; try (with_reducible rfl))
  simp only [List.getElem_toArray, List.getElem_cons_succ, List.getElem_cons_zero, Act.put, List.setIfInBounds_toArray, List.set_cons_zero, List.set_cons_succ]
  refine wpAnyH_take (i := 11) (v := ?v28) rfl (by kernel_rfl) (by kernel_rfl) (by kernel_rfl) (fun _ _ _ h => h) (Or.inl ⟨by rfl, ?y28⟩) (by assumption) ?r28
  case y28 => (intro w hSw; (try dsimp only at hSw); go_simp; try (with_reducible rfl))
  simp only [List.getElem_toArray, List.getElem_cons_succ, List.getElem_cons_zero, Act.put, List.setIfInBounds_toArray, List.set_cons_zero, List.set_cons_succ]
  refine wpAnyH_take (i := 12) (v := ?v29) rfl (by kernel_rfl) (by kernel_rfl) (by kernel_rfl) (fun _ _ _ h => h) (Or.inl ⟨by rfl, ?y29⟩) (by assumption) ?r29
  case y29 => (intro w hSw; (try dsimp only at hSw); go_simp; try (with_reducible rfl))
  simp only [List.getElem_toArray, List.getElem_cons_succ, List.getElem_cons_zero, Act.put, List.setIfInBounds_toArray, List.set_cons_zero, List.set_cons_succ]
  refine wpAnyH_take (i := 13) (v := ?v30) rfl (by kernel_rfl) (by kernel_rfl) (by kernel_rfl) (fun _ _ _ h => h) (Or.inl ⟨by rfl, ?y30⟩) (by assumption) ?r30
  case y30 => (intro w hSw; (try dsimp only at hSw); go_simp; try (with_reducible rfl))
  simp only [List.getElem_toArray, List.getElem_cons_succ, List.getElem_cons_zero, Act.put, List.setIfInBounds_toArray, List.set_cons_zero, List.set_cons_succ]
  refine wpAnyH_take (i := 14) (v := ?v31) rfl (by kernel_rfl) (by kernel_rfl) (by kernel_rfl) (fun _ _ _ h => h) (Or.inl ⟨by rfl, ?y31⟩) (by assumption) ?r31
  case y31 => (intro w hSw; (try dsimp only at hSw); go_simp; try (with_reducible rfl))
  simp only [List.getElem_toArray, List.getElem_cons_succ, List.getElem_cons_zero, Act.put, List.setIfInBounds_toArray, List.set_cons_zero, List.set_cons_succ]
  refine wpAnyH_take (i := 15) (v := ?v32) rfl (by kernel_rfl) (by kernel_rfl) (by kernel_rfl) (fun _ _ _ h => h) (Or.inl ⟨by rfl, ?y32⟩) (by assumption) ?r32
  case y32 => (intro w hSw; (try dsimp only at hSw); go_simp; try (with_reducible rfl))
  simp only [List.getElem_toArray, List.getElem_cons_succ, List.getElem_cons_zero, Act.put, List.setIfInBounds_toArray, List.set_cons_zero, List.set_cons_succ]
  refine wpAnyH_ready (rs := [16]) (by kernel_rfl) (by simp) ?_
  refine AllReadyH.cons rfl (fun K hK => ?_) AllReadyH.nil
  simp only [List.getElem_toArray, List.getElem_cons_succ, List.getElem_cons_zero]
  rw [if_pos (show Region.wanted _ _ = true from rfl)]
  refine oper_copy_run _ _ 23 rfl _ _ rfl rfl (Kw1.out.drew.copyC2 p tk P1 T1 HPT.out.1 HPT.out.2 hp ht _) ?_
  obtain ⟨w2, hw2⟩ : ∃ y, y = w1.drew.setCells gC (p + 1) (ints ((L2.drop p).take (tk - p))) := ⟨_, rfl⟩
  have Kw2 := hide (show BxH w w2 zb base gN cN gC cC n G T Q1 (putAt L2 (p + 1) ((L2.drop p).take (tk - p))) by rw [hw2]; exact Kw1.out.drew.setsC _ _)
  try rw [← hw2]
  refine hK.out _ _ ?_ (fun hHeld => ?_)
  · exact (blk4 Kw2.out.X).2.1
  clear hK K hw2
  try simp only [Act.put, List.setIfInBounds_toArray, List.set_cons_zero, List.set_cons_succ]
  refine wpAnyH_done (by kernel_rfl) ?_ _
  clear hHeld
  generalize (if cC = P1 then (some ⟨gC, 0, none⟩ : Option Addr) else some ⟨gC, P1, none⟩) = dC
  generalize (if cC = p then (some ⟨gC, 0, none⟩ : Option Addr) else some ⟨gC, p, none⟩) = sC
  obtain ⟨Q2, hQ2⟩ : ∃ Q2, Q2 = putAt L2 (p + 1) ((L2.drop p).take (tk - p)) := ⟨_, rfl⟩
  rw [← hQ2] at Kw2
  have HQ2 := hide hQ2
  clear hQ2
  have hpn : (p : Int) < (n : Int) := by omega
  go_upto_region 2 with fail
  refine wp_region_held_drew (S := fun wx => wx.cell? ⟨zb, 0, none⟩ = some (.slice (some ⟨gN, 0, none⟩) n cN) ∧ wx.cell? ⟨zb, 1, none⟩ = some (.slice (some ⟨gC, 0, none⟩) n cC)) (by kernel_rfl) ⟨(blk4 Kw2.out.X).1, (blk4 Kw2.out.X).2.1⟩ (fun hHeld => ?_)
  refine wpAnyH_take (i := 0) (v := ?v33) rfl (by kernel_rfl) (by kernel_rfl) (by kernel_rfl) (fun _ _ _ h => h) (Or.inl ⟨by rfl, ?y33⟩) (by assumption) ?r33
  case y33 => (intro w hSw; (try dsimp only at hSw); go_simp; try (with_reducible rfl))
  simp only [List.getElem_toArray, List.getElem_cons_zero, Act.put, List.setIfInBounds_toArray, List.set_cons_zero, List.set_cons_succ]
  refine wpAnyH_take (i := 1) (v := ?v34) rfl (by kernel_rfl) (by kernel_rfl) (by kernel_rfl) (fun _ _ _ h => h) (Or.inl ⟨by rfl, ?y34⟩) (by assumption) ?r34
  case y34 => (intro w hSw; (try dsimp only at hSw); go_simp; try (with_reducible rfl))
  simp only [List.getElem_toArray, List.getElem_cons_succ, List.getElem_cons_zero, Act.put, List.setIfInBounds_toArray, List.set_cons_zero, List.set_cons_succ]
  refine wpAnyH_take (i := 2) (v := ?v35) rfl (by kernel_rfl) (by kernel_rfl) (by kernel_rfl) (fun _ _ _ h => h) (Or.inl ⟨by rfl, ?y35⟩) (by assumption) ?r35
  case y35 => (intro w hSw; (try dsimp only at hSw); go_simp; try (with_reducible rfl))
  simp only [List.getElem_toArray, List.getElem_cons_succ, List.getElem_cons_zero, Act.put, List.setIfInBounds_toArray, List.set_cons_zero, List.set_cons_succ]
  refine wpAnyH_take (i := 3) (v := ?v36) rfl (by kernel_rfl) (by kernel_rfl) (by kernel_rfl) (fun _ _ _ h => h) (Or.inl ⟨by rfl, ?y36⟩) (by assumption) ?r36
  case y36 => (intro w hSw; (try dsimp only at hSw); go_simp; try (with_reducible rfl))
  simp only [List.getElem_toArray, List.getElem_cons_succ, List.getElem_cons_zero, Act.put, List.setIfInBounds_toArray, List.set_cons_zero, List.set_cons_succ]
  refine wpAnyH_take (i := 4) (v := ?v37) rfl (by kernel_rfl) (by kernel_rfl) (by kernel_rfl) (fun _ _ _ h => h) (Or.inl ⟨by rfl, ?y37⟩) (by assumption) ?r37
  case y37 => (intro w hSw; (try dsimp only at hSw); go_simp; try (with_reducible rfl))
  simp only [List.getElem_toArray, List.getElem_cons_succ, List.getElem_cons_zero, Act.put, List.setIfInBounds_toArray, List.set_cons_zero, List.set_cons_succ]
  refine wpAnyH_take (i := 5) (v := ?v38) rfl (by kernel_rfl) (by kernel_rfl) (by kernel_rfl) (fun _ _ _ h => h) (Or.inl ⟨by rfl, ?y38⟩) (by assumption) ?r38
  case y38 => (intro w hSw; (try dsimp only at hSw); go_simp; try (with_reducible rfl))
  simp only [List.getElem_toArray, List.getElem_cons_succ, List.getElem_cons_zero, Act.put, List.setIfInBounds_toArray, List.set_cons_zero, List.set_cons_succ]
  refine wpAnyH_take (i := 6) (v := ?v39) rfl (by kernel_rfl) (by kernel_rfl) (by kernel_rfl) (fun _ _ _ h => h) (Or.inl ⟨by rfl, ?y39⟩) (by assumption) ?r39
  case y39 => (intro w hSw; (try dsimp only at hSw); go_simp; try (with_reducible rfl))
  simp only [List.getElem_toArray, List.getElem_cons_succ, List.getElem_cons_zero, Act.put, List.setIfInBounds_toArray, List.set_cons_zero, List.set_cons_succ]
  refine wpAnyH_take (i := 7) (v := ?v40) rfl (by kernel_rfl) (by kernel_rfl) (by kernel_rfl) (fun _ _ _ h => h) (Or.inl ⟨by rfl, ?y40⟩) (by assumption) ?r40
  case y40 => (intro w hSw; (try dsimp only at hSw); go_simp; try (with_reducible rfl))
  simp only [List.getElem_toArray, List.getElem_cons_succ, List.getElem_cons_zero, Act.put, List.setIfInBounds_toArray, List.set_cons_zero, List.set_cons_succ]
  refine wpAnyH_take (i := 8) (v := ?v41) rfl (by kernel_rfl) (by kernel_rfl) (by kernel_rfl) (fun _ _ _ h => h) (Or.inl ⟨by rfl, ?y41⟩) (by assumption) ?r41
  case y41 => (intro w hSw; (try dsimp only at hSw); go_simp; try (with_reducible rfl))
  simp only [List.getElem_toArray, List.getElem_cons_succ, List.getElem_cons_zero, Act.put, List.setIfInBounds_toArray, List.set_cons_zero, List.set_cons_succ]
  refine wpAnyH_take (i := 9) (v := ?v42) rfl (by kernel_rfl) (by kernel_rfl) (by kernel_rfl) (fun _ _ _ h => h) (Or.inl ⟨by rfl, ?y42⟩) (by assumption) ?r42
  case y42 => (intro w hSw; (try dsimp only at hSw); go_simp; try (with_reducible rfl))
  simp only [List.getElem_toArray, List.getElem_cons_succ, List.getElem_cons_zero, Act.put, List.setIfInBounds_toArray, List.set_cons_zero, List.set_cons_succ]
  refine wpAnyH_take (i := 10) (v := ?v43) rfl (by kernel_rfl) (by kernel_rfl) (by kernel_rfl) (fun _ _ _ h => h) (Or.inl ⟨by rfl, ?y43⟩) (by assumption) ?r43
  case y43 => (intro w hSw; (try dsimp only at hSw); go_simp; try (with_reducible rfl))
  simp only [List.getElem_toArray, List.getElem_cons_succ, List.getElem_cons_zero, Act.put, List.setIfInBounds_toArray, List.set_cons_zero, List.set_cons_succ]
  refine wpAnyH_take (i := 11) (v := ?v44) rfl (by kernel_rfl) (by kernel_rfl) (by kernel_rfl) (fun _ _ _ h => h) (Or.inl ⟨by rfl, ?y44⟩) (by assumption) ?r44
  case y44 => (intro w hSw; (try dsimp only at hSw); go_simp; try (with_reducible rfl))
  simp only [List.getElem_toArray, List.getElem_cons_succ, List.getElem_cons_zero, Act.put, List.setIfInBounds_toArray, List.set_cons_zero, List.set_cons_succ]
  refine wpAnyH_ready (rs := [12]) (by kernel_rfl) (by simp) ?_
  refine AllReadyH.cons rfl (fun K hK => ?_) AllReadyH.nil
  simp only [List.getElem_toArray, List.getElem_cons_succ, List.getElem_cons_zero]
  obtain ⟨c1, f1⟩ := Kw2.out.atN p (by omega)
  go_simp
  obtain ⟨w3, hw3⟩ : ∃ y, y = (w2.setCell ⟨gN, p, none⟩ (.string s)).drew := ⟨_, rfl⟩
  have K3 := hide (show BxH w w3 zb base gN cN gC cC n G T (Q1.set p s) Q2 by rw [hw3]; exact (Kw2.out.setN p s).drew)
  try rw [← hw3]
  refine hK.out _ _ ?_ (fun hHeld => ?_)
  · exact ⟨(blk4 K3.out.X).1, (blk4 K3.out.X).2.1⟩
  clear hK K hw3 c1 f1
  try simp only [Act.put, List.setIfInBounds_toArray, List.set_cons_zero, List.set_cons_succ]
  refine wpAnyH_take (i := 13) (v := ?v45) rfl (by kernel_rfl) (by kernel_rfl) (by kernel_rfl) (fun _ _ _ h => h) (Or.inl ⟨by rfl, ?y45⟩) (by assumption) ?r45
  case y45 => (intro w hSw; (try dsimp only at hSw); go_simp; try (with_reducible rfl))
  simp only [List.getElem_toArray, List.getElem_cons_succ, List.getElem_cons_zero, Act.put, List.setIfInBounds_toArray, List.set_cons_zero, List.set_cons_succ]
  refine wpAnyH_ready (rs := [14]) (by kernel_rfl) (by simp) ?_
  refine AllReadyH.cons rfl (fun K hK => ?_) AllReadyH.nil
  simp only [List.getElem_toArray, List.getElem_cons_succ, List.getElem_cons_zero]
  obtain ⟨c1, f1⟩ := K3.out.atC p (by omega)
  go_simp
  obtain ⟨w4, hw4⟩ : ∃ y, y = w3.setCell ⟨gC, p, none⟩ (.int .i64 1) := ⟨_, rfl⟩
  have K4 := hide (show BxH w w4 zb base gN cN gC cC n G T (Q1.set p s) (Q2.set p 1) by rw [hw4]; exact K3.out.setC p 1)
  try rw [← hw4]
  refine hK.out _ _ ?_ (fun hHeld => ?_)
  · exact ⟨(blk4 K4.out.X).1, (blk4 K4.out.X).2.1⟩
  clear hK K hw4 c1 f1
  try simp only [Act.put, List.setIfInBounds_toArray, List.set_cons_zero, List.set_cons_succ]
  refine wpAnyH_done (by kernel_rfl) ?_ _
  clear hHeld
  have hl1 := K0.out.lenN
  have hl2 := K0.out.lenC
  have S1 := (putAt_moved e0 L1 p tk hp (by omega) (fun j h1 h2 => H12.out.1 j h1 (by omega))).put (s := s) (by omega)
  have S2 := (putAt_moved 0 L2 p tk hp (by omega) (fun j h1 h2 => H12.out.2 j h1 (by omega))).put (s := 1) (by omega)
  have KE := hide (show BxH w w4 zb base gN cN gC cC n G T (putL L1 p s) (putL L2 p 1) by rw [← S1, ← S2, ← HQ1.out, ← HQ2.out]; exact K4.out)
  clear S1 S2
  go_wp2
  go_end0
  exact ⟨rfl, KE.out⟩
end Go.Proofs.Yticgejaaoamhmao.L15H

namespace Go.Proofs.Yticgejaaoamhmao.L15H
open Go.RowKit L1 Own Str
set_option linter.unusedVariables false

set_option maxRecDepth 100000 in
set_option maxHeartbeats 8000000 in
theorem takeOneOff_any (zb base gN cN gC cC n : Nat) (G T : Int) (h : Hv) (w x : World) (k : BxH w x zb base gN cN gC cC n G T h.nm h.ct) (hn6 : n ≤ 100000) (hG : 0 ≤ G ∧ G ≤ 1000000) (hct : ∀ i, i < n → 0 ≤ ca h i ∧ ca h i ≤ 1000000) :
    Calls Try.prog 46 #[.pointer (some ⟨zb, 0, none⟩)] x fun e x' => e = .returned (.tuple #[]) ∧ BxH w x' zb base gN cN gC cC n (G + 1) T (lfN h n ++ List.replicate (n - (lfC h n).length) e0) (lfC h n ++ List.replicate (n - (lfC h n).length) 0) := by
  have K0 := hide k
  have HCT := hide hct
  have hcN := k.capN
  have hcC := k.capC
  have LN := hide k.lenN
  have LC := hide k.lenC
  obtain ⟨p0, p1, p2, p3⟩ := blk4 k.X
  clear k hct
  go_enter Try.func46, Try.ntmps46
  go_wp2
  clear p0 p1 p2 p3
  go_loopw [2, 10] (fun lv iv wr => ∃ (k : Nat) (R1 : List ByteArray) (R2 : List Int), k ≤ n ∧ lv = .int .i64 ((lfC h k).length : Int) ∧ iv = .int .i64 k ∧ Hid (Lf h k R1 R2) ∧ Hid (BxH w wr zb base gN cN gC cC n G T R1 R2)) (fun lv iv _ => n - (intOf iv).toNat)
  case atStart => exact ⟨0, _, _, Nat.zero_le _, rfl, rfl, lf_start h, K0.out⟩
  case round =>
    obtain ⟨k, R1, R2, hk, rfl, rfl, F, KB⟩ := hrel
    have hlf := (lf_len h k).2
    obtain ⟨q, hq⟩ : ∃ q, q = (lfC h k).length := ⟨_, rfl⟩
    rw [← hq] at hlf
    have HQ := hide hq
    rw [← hq]
    clear hq
    by_cases hlt : k < n
    · have hltI : (k : Int) < (n : Int) := by omega
      have hk0 : (0 : Int) ≤ (k : Int) := by omega
      have hqn : (q : Int) < (n : Int) := by omega
      have hq0 : (0 : Int) ≤ (q : Int) := by omega
      obtain ⟨hcN1, _⟩ := KB.out.atN k hlt
      obtain ⟨hcC1, _⟩ := KB.out.atC k hlt
      obtain ⟨s, hs⟩ : ∃ s, s = na h k := ⟨_, rfl⟩
      obtain ⟨z, hz⟩ : ∃ z, z = ca h k := ⟨_, rfl⟩
      rw [show R1.getD k e0 = s by rw [F.out.a1 k (by have := LN.out; omega), if_neg (by rw [← HQ.out]; omega), hs]] at hcN1
      rw [show R2.getD k 0 = z by rw [F.out.a2 k (by have := LC.out; omega), if_neg (by rw [← HQ.out]; omega), hz]] at hcC1
      have hzb := HCT.out k hlt
      rw [← hz] at hzb
      have HS := hide hs
      have HZ := hide hz
      clear hs hz
      have hwz := wrapH (z - 1) (by omega) (by omega)
      obtain ⟨p0, p1, p2, p3⟩ := blk4 KB.out.X
      by_cases hc : 1 < z
      · have hcg : z > 1 := hc
        have FN := hide (F.out.yes (by have := LN.out; omega) (by have := LC.out; omega) (show 1 < ca h k by rw [← HZ.out]; exact hc))
        rw [← HQ.out, ← HS.out, ← HZ.out] at FN
        have HQ2 := hide (show ((lfC h (k + 1)).length : Int) = (q : Int) + 1 by
          have e2 : lfC h (k + 1) = lfC h k ++ [ca h k - 1] := by simp only [lfC]; rw [if_pos (show 1 < ca h k by rw [← HZ.out]; exact hc)]
          rw [e2, HQ.out]
          simp)
        go_upto_region 5 with fail
        clear hcN1 p2 p3
        refine wp_region_held_drew (S := fun wx => wx.cell? ⟨zb, 0, none⟩ = some (.slice (some ⟨gN, 0, none⟩) n cN) ∧ wx.cell? ⟨zb, 1, none⟩ = some (.slice (some ⟨gC, 0, none⟩) n cC)) (by kernel_rfl) ⟨p0, p1⟩ (fun hHeld => ?_)
        refine wpAnyH_take (i := 0) (v := ?v1) rfl (by kernel_rfl) (by kernel_rfl) (by kernel_rfl) (fun _ _ _ h => h) (Or.inl ⟨by rfl, ?y1⟩) (by assumption) ?r1
        case y1 => (intro w hSw; (try dsimp only at hSw); go_simp; try (with_reducible rfl))
        simp only [List.getElem_toArray, List.getElem_cons_zero, Act.put, List.setIfInBounds_toArray, List.set_cons_zero, List.set_cons_succ]
        refine wpAnyH_take (i := 1) (v := ?v2) rfl (by kernel_rfl) (by kernel_rfl) (by kernel_rfl) (fun _ _ _ h => h) (Or.inl ⟨by rfl, ?y2⟩) (by assumption) ?r2
        case y2 => (intro w hSw; (try dsimp only at hSw); go_simp; try (with_reducible rfl))
        simp only [List.getElem_toArray, List.getElem_cons_succ, List.getElem_cons_zero, Act.put, List.setIfInBounds_toArray, List.set_cons_zero, List.set_cons_succ]
        refine wpAnyH_take (i := 2) (v := ?v3) rfl (by kernel_rfl) (by kernel_rfl) (by kernel_rfl) (fun _ _ _ h => h) (Or.inl ⟨by rfl, ?y3⟩) (by assumption) ?r3
        case y3 => (intro w hSw; (try dsimp only at hSw); go_simp; try (with_reducible rfl))
        simp only [List.getElem_toArray, List.getElem_cons_succ, List.getElem_cons_zero, Act.put, List.setIfInBounds_toArray, List.set_cons_zero, List.set_cons_succ]
        refine wpAnyH_take (i := 3) (v := ?v4) rfl (by kernel_rfl) (by kernel_rfl) (by kernel_rfl) (fun _ _ _ h => h) (Or.inl ⟨by rfl, ?y4⟩) (by assumption) ?r4
        case y4 => (intro w hSw; (try dsimp only at hSw); go_simp; try (with_reducible rfl))
        simp only [List.getElem_toArray, List.getElem_cons_succ, List.getElem_cons_zero, Act.put, List.setIfInBounds_toArray, List.set_cons_zero, List.set_cons_succ]
        refine wpAnyH_take (i := 4) (v := ?v5) rfl (by kernel_rfl) (by kernel_rfl) (by kernel_rfl) (fun _ _ _ h => h) (Or.inl ⟨by rfl, ?y5⟩) (by assumption) ?r5
        case y5 => (intro w hSw; (try dsimp only at hSw); go_simp; try (with_reducible rfl))
        simp only [List.getElem_toArray, List.getElem_cons_succ, List.getElem_cons_zero, Act.put, List.setIfInBounds_toArray, List.set_cons_zero, List.set_cons_succ]
        refine wpAnyH_take (i := 5) (v := ?v6) rfl (by kernel_rfl) (by kernel_rfl) (by kernel_rfl) (fun _ _ _ h => h) (Or.inl ⟨by rfl, ?y6⟩) (by assumption) ?r6
        case y6 => (intro w hSw; (try dsimp only at hSw); go_simp; try (with_reducible rfl))
        simp only [List.getElem_toArray, List.getElem_cons_succ, List.getElem_cons_zero, Act.put, List.setIfInBounds_toArray, List.set_cons_zero, List.set_cons_succ]
        refine wpAnyH_take (i := 6) (v := ?v7) rfl (by kernel_rfl) (by kernel_rfl) (by kernel_rfl) (fun _ _ _ h => h) (Or.inl ⟨by rfl, ?y7⟩) (by assumption) ?r7
        case y7 => (intro w hSw; (try dsimp only at hSw); go_simp; try (with_reducible rfl))
        simp only [List.getElem_toArray, List.getElem_cons_succ, List.getElem_cons_zero, Act.put, List.setIfInBounds_toArray, List.set_cons_zero, List.set_cons_succ]
        refine wpAnyH_take (i := 7) (v := ?v8) rfl (by kernel_rfl) (by kernel_rfl) (by kernel_rfl) (fun _ _ _ h => h) (Or.inl ⟨by rfl, ?y8⟩) (by assumption) ?r8
        case y8 => (intro w hSw; (try dsimp only at hSw); go_simp; try (with_reducible rfl))
        simp only [List.getElem_toArray, List.getElem_cons_succ, List.getElem_cons_zero, Act.put, List.setIfInBounds_toArray, List.set_cons_zero, List.set_cons_succ]
        refine wpAnyH_take (i := 8) (v := ?v9) rfl (by kernel_rfl) (by kernel_rfl) (by kernel_rfl) (fun _ _ _ h => h) (Or.inl ⟨by rfl, ?y9⟩) (by assumption) ?r9
        case y9 => (intro w hSw; (try dsimp only at hSw); go_simp; try (with_reducible rfl))
        simp only [List.getElem_toArray, List.getElem_cons_succ, List.getElem_cons_zero, Act.put, List.setIfInBounds_toArray, List.set_cons_zero, List.set_cons_succ]
        refine wpAnyH_take (i := 9) (v := ?v10) rfl (by kernel_rfl) (by kernel_rfl) (by kernel_rfl) (fun _ _ _ h => h) (Or.inl ⟨by rfl, ?y10⟩) (by assumption) ?r10
        case y10 => (intro w hSw; (try dsimp only at hSw); go_simp; try (with_reducible rfl))
        simp only [List.getElem_toArray, List.getElem_cons_succ, List.getElem_cons_zero, Act.put, List.setIfInBounds_toArray, List.set_cons_zero, List.set_cons_succ]
        refine wpAnyH_take (i := 10) (v := ?v11) rfl (by kernel_rfl) (by kernel_rfl) (by kernel_rfl) (fun _ _ _ h => h) (Or.inl ⟨by rfl, ?y11⟩) (by assumption) ?r11
        case y11 => (intro w hSw; (try dsimp only at hSw); go_simp; try (with_reducible rfl))
        simp only [List.getElem_toArray, List.getElem_cons_succ, List.getElem_cons_zero, Act.put, List.setIfInBounds_toArray, List.set_cons_zero, List.set_cons_succ]
        refine wpAnyH_take (i := 11) (v := ?v12) rfl (by kernel_rfl) (by kernel_rfl) (by kernel_rfl) (fun _ _ _ h => h) (Or.inl ⟨by rfl, ?y12⟩) (by assumption) ?r12
        case y12 => (intro w hSw; (try dsimp only at hSw); go_simp; try (with_reducible rfl))
        simp only [List.getElem_toArray, List.getElem_cons_succ, List.getElem_cons_zero, Act.put, List.setIfInBounds_toArray, List.set_cons_zero, List.set_cons_succ]
        refine wpAnyH_take (i := 12) (v := ?v13) rfl (by kernel_rfl) (by kernel_rfl) (by kernel_rfl) (fun _ _ _ h => h) (Or.inl ⟨by rfl, ?y13⟩) (by assumption) ?r13
        case y13 => (intro w hSw; (try dsimp only at hSw); go_simp; try (with_reducible rfl))
        simp only [List.getElem_toArray, List.getElem_cons_succ, List.getElem_cons_zero, Act.put, List.setIfInBounds_toArray, List.set_cons_zero, List.set_cons_succ]
        refine wpAnyH_take (i := 13) (v := ?v14) rfl (by kernel_rfl) (by kernel_rfl) (by kernel_rfl) (fun _ _ _ h => h) (Or.inl ⟨by rfl, ?y14⟩) (by assumption) ?r14
        case y14 => (intro w hSw; (try dsimp only at hSw); go_simp; try (with_reducible rfl))
        simp only [List.getElem_toArray, List.getElem_cons_succ, List.getElem_cons_zero, Act.put, List.setIfInBounds_toArray, List.set_cons_zero, List.set_cons_succ]
        refine wpAnyH_take (i := 14) (v := ?v15) rfl (by kernel_rfl) (by kernel_rfl) (by kernel_rfl) (fun _ _ _ h => h) (Or.inl ⟨by rfl, ?y15⟩) (by assumption) ?r15
        case y15 => (intro w hSw; (try dsimp only at hSw); go_simp; try (with_reducible rfl))
        simp only [List.getElem_toArray, List.getElem_cons_succ, List.getElem_cons_zero, Act.put, List.setIfInBounds_toArray, List.set_cons_zero, List.set_cons_succ]
        refine wpAnyH_take (i := 15) (v := ?v16) rfl (by kernel_rfl) (by kernel_rfl) (by kernel_rfl) (fun _ _ _ h => h) (Or.inl ⟨by rfl, ?y16⟩) (by assumption) ?r16
        case y16 => (intro w hSw; (try dsimp only at hSw); go_simp; try (with_reducible rfl))
        simp only [List.getElem_toArray, List.getElem_cons_succ, List.getElem_cons_zero, Act.put, List.setIfInBounds_toArray, List.set_cons_zero, List.set_cons_succ]
        refine wpAnyH_take (i := 16) (v := ?v17) rfl (by kernel_rfl) (by kernel_rfl) (by kernel_rfl) (fun _ _ _ h => h) (Or.inl ⟨by rfl, ?y17⟩) (by assumption) ?r17
        case y17 => (intro w hSw; (try dsimp only at hSw); go_simp; try (with_reducible rfl))
        simp only [List.getElem_toArray, List.getElem_cons_succ, List.getElem_cons_zero, Act.put, List.setIfInBounds_toArray, List.set_cons_zero, List.set_cons_succ]
        refine wpAnyH_ready (rs := [17]) (by kernel_rfl) (by simp) ?_
        refine AllReadyH.cons rfl (fun K hK => ?_) AllReadyH.nil
        simp only [List.getElem_toArray, List.getElem_cons_succ, List.getElem_cons_zero]
        go_simp
        refine hK.out _ _ ?_ (fun hHeld => ?_)
        · exact ⟨p0, p1⟩
        clear hK K
        try simp only [Act.put, List.setIfInBounds_toArray, List.set_cons_zero, List.set_cons_succ]
        refine wpAnyH_take (i := 18) (v := ?v18) rfl (by kernel_rfl) (by kernel_rfl) (by kernel_rfl) (fun _ _ _ h => h) (Or.inl ⟨by rfl, ?y18⟩) (by assumption) ?r18
        case y18 => (intro w hSw; (try dsimp only at hSw); go_simp; try (with_reducible rfl))
        simp only [List.getElem_toArray, List.getElem_cons_succ, List.getElem_cons_zero, Act.put, List.setIfInBounds_toArray, List.set_cons_zero, List.set_cons_succ]
        refine wpAnyH_take (i := 19) (v := ?v19) rfl (by kernel_rfl) (by kernel_rfl) (by kernel_rfl) (fun _ _ _ h => h) (Or.inl ⟨by rfl, ?y19⟩) (by assumption) ?r19
        case y19 => (intro w hSw; (try dsimp only at hSw); go_simp; try (with_reducible rfl))
        simp only [List.getElem_toArray, List.getElem_cons_succ, List.getElem_cons_zero, Act.put, List.setIfInBounds_toArray, List.set_cons_zero, List.set_cons_succ]
        refine wpAnyH_ready (rs := [20]) (by kernel_rfl) (by simp) ?_
        refine AllReadyH.cons rfl (fun K hK => ?_) AllReadyH.nil
        simp only [List.getElem_toArray, List.getElem_cons_succ, List.getElem_cons_zero]
        obtain ⟨c1, f1⟩ := KB.out.atN q (by omega)
        go_simp
        obtain ⟨w3, hw3⟩ : ∃ y, y = (wr.setCell ⟨gN, q, none⟩ (.string s)).drew := ⟨_, rfl⟩
        have K3 := hide (show BxH w w3 zb base gN cN gC cC n G T (R1.set q s) R2 by rw [hw3]; exact (KB.out.setN q s).drew)
        try rw [← hw3]
        refine hK.out _ _ ?_ (fun hHeld => ?_)
        · exact ⟨(blk4 K3.out.X).1, (blk4 K3.out.X).2.1⟩
        clear hK K hw3 c1 f1
        try simp only [Act.put, List.setIfInBounds_toArray, List.set_cons_zero, List.set_cons_succ]
        refine wpAnyH_take (i := 21) (v := ?v20) rfl (by kernel_rfl) (by kernel_rfl) (by kernel_rfl) (fun _ _ _ h => h) (Or.inl ⟨by rfl, ?y20⟩) (by assumption) ?r20
        case y20 => (intro w hSw; (try dsimp only at hSw); go_simp; try (with_reducible rfl))
        simp only [List.getElem_toArray, List.getElem_cons_succ, List.getElem_cons_zero, Act.put, List.setIfInBounds_toArray, List.set_cons_zero, List.set_cons_succ]
        refine wpAnyH_ready (rs := [22]) (by kernel_rfl) (by simp) ?_
        refine AllReadyH.cons rfl (fun K hK => ?_) AllReadyH.nil
        simp only [List.getElem_toArray, List.getElem_cons_succ, List.getElem_cons_zero]
        obtain ⟨c1, f1⟩ := K3.out.atC q (by omega)
        go_simp
        obtain ⟨w4, hw4⟩ : ∃ y, y = w3.setCell ⟨gC, q, none⟩ (.int .i64 (z - 1)) := ⟨_, rfl⟩
        have K4 := hide (show BxH w w4 zb base gN cN gC cC n G T (R1.set q s) (R2.set q (z - 1)) by rw [hw4]; exact K3.out.setC q (z - 1))
        try rw [← hw4]
        refine hK.out _ _ ?_ (fun hHeld => ?_)
        · exact ⟨(blk4 K4.out.X).1, (blk4 K4.out.X).2.1⟩
        clear hK K hw4 c1 f1
        try simp only [Act.put, List.setIfInBounds_toArray, List.set_cons_zero, List.set_cons_succ]
        refine wpAnyH_done (by kernel_rfl) ?_ _
        clear hHeld p0 p1 hcC1
        go_wp2
        go_roundw
        case rel => exact ⟨k + 1, _, _, by omega, by rw [HQ2.out], by go_num, FN.out, K4.out⟩
        case measure => simp [intOf]; omega
      · have hcg : ¬ z > 1 := hc
        have FN := hide (F.out.no (show ¬ 1 < ca h k by rw [← HZ.out]; exact hc))
        have HQ2 := hide (show (lfC h (k + 1)).length = q by
          have e2 : lfC h (k + 1) = lfC h k := by simp only [lfC]; rw [if_neg (show ¬ 1 < ca h k by rw [← HZ.out]; exact hc)]
          rw [e2, HQ.out])
        go_wp2
        go_roundw
        case rel => exact ⟨k + 1, _, _, by omega, by rw [HQ2.out], by go_num, FN.out, KB.out⟩
        case measure => simp [intOf]; omega
    · obtain rfl : k = n := by omega
      have hltI : ¬ (k : Int) < (k : Int) := by omega
      have hq0 : (0 : Int) ≤ (q : Int) := by omega
      have hqc : (q : Int) ≤ (cN : Int) := by omega
      have hqd : (q : Int) ≤ (cC : Int) := by omega
      have hqk : (q : Int) ≤ (k : Int) := by omega
      have E1 := hide (F.out.end1 LN.out)
      have E2 := hide (F.out.end2 LC.out)
      rw [← HQ.out] at E1 E2
      rcases Nat.eq_or_lt_of_le (show q ≤ cN by omega) with hcN2 | hcN2
      · rcases Nat.eq_or_lt_of_le (show q ≤ cC by omega) with hcC2 | hcC2
        · subst hcN2
          subst hcC2
          obtain ⟨p0, p1, p2, p3⟩ := blk4 KB.out.X
          have hrN := clear0 apT_str (some ⟨gN, 0, none⟩) 0 wr
          have K5 := hide (show BxH w wr zb base gN q gC q k G T (lfN h k ++ List.replicate (k - q) e0) R2 by have e := E1.out; have kk := KB.out; rw [show k - q = 0 by omega] at e ⊢; (try rw [show k - q = 0 by omega] at kk); rw [← e]; exact kk)
          go_upto_region 9 with fail
          clear p0 p1 p2 p3 hrN
          obtain ⟨p0, p1, p2, p3⟩ := blk4 K5.out.X
          have hrC := clear0 apT_int (some ⟨gC, 0, none⟩) 0 wr
          have K6 := hide (show BxH w wr zb base gN q gC q k G T (lfN h k ++ List.replicate (k - q) e0) (lfC h k ++ List.replicate (k - q) 0) by have e := E2.out; have kk := K5.out; rw [show k - q = 0 by omega] at e ⊢; (try rw [show k - q = 0 by omega] at kk); rw [← e]; exact kk)
          go_upto_region 10 with fail
          clear p0 p1 p2 p3 hrC
          obtain ⟨p0, p1, p2, p3⟩ := blk4 K6.out.X
          obtain ⟨f0, f1, f2, f3⟩ := frz4 K6.out.X
          have K7 := hide (K6.out.setG (G + 1))
          go_wp2
          go_end0
          exact ⟨rfl, by rw [← HQ.out]; exact K7.out⟩
        · subst hcN2
          have hcC3 : ¬ cC = q := by omega
          obtain ⟨p0, p1, p2, p3⟩ := blk4 KB.out.X
          have hrN := clear0 apT_str (some ⟨gN, 0, none⟩) 0 wr
          have K5 := hide (show BxH w wr zb base gN q gC cC k G T (lfN h k ++ List.replicate (k - q) e0) R2 by have e := E1.out; have kk := KB.out; rw [show k - q = 0 by omega] at e ⊢; (try rw [show k - q = 0 by omega] at kk); rw [← e]; exact kk)
          go_upto_region 9 with fail
          clear p0 p1 p2 p3 hrN
          obtain ⟨p0, p1, p2, p3⟩ := blk4 K5.out.X
          have hrC := clear0 apT_int (some ⟨gC, q, none⟩) (cC - q) wr
          have K6 := hide (show BxH w wr zb base gN q gC cC k G T (lfN h k ++ List.replicate (k - q) e0) (lfC h k ++ List.replicate (k - q) 0) by have e := E2.out; have kk := K5.out; rw [show k - q = 0 by omega] at e ⊢; (try rw [show k - q = 0 by omega] at kk); rw [← e]; exact kk)
          go_upto_region 10 with fail
          clear p0 p1 p2 p3 hrC
          obtain ⟨p0, p1, p2, p3⟩ := blk4 K6.out.X
          obtain ⟨f0, f1, f2, f3⟩ := frz4 K6.out.X
          have K7 := hide (K6.out.setG (G + 1))
          go_wp2
          go_end0
          exact ⟨rfl, by rw [← HQ.out]; exact K7.out⟩
      · have hcN3 : ¬ cN = q := by omega
        rcases Nat.eq_or_lt_of_le (show q ≤ cC by omega) with hcC2 | hcC2
        · subst hcC2
          obtain ⟨p0, p1, p2, p3⟩ := blk4 KB.out.X
          have hrN := clear0 apT_str (some ⟨gN, q, none⟩) (cN - q) wr
          have K5 := hide (show BxH w wr zb base gN cN gC q k G T (lfN h k ++ List.replicate (k - q) e0) R2 by have e := E1.out; have kk := KB.out; rw [show k - q = 0 by omega] at e ⊢; (try rw [show k - q = 0 by omega] at kk); rw [← e]; exact kk)
          go_upto_region 9 with fail
          clear p0 p1 p2 p3 hrN
          obtain ⟨p0, p1, p2, p3⟩ := blk4 K5.out.X
          have hrC := clear0 apT_int (some ⟨gC, 0, none⟩) 0 wr
          have K6 := hide (show BxH w wr zb base gN cN gC q k G T (lfN h k ++ List.replicate (k - q) e0) (lfC h k ++ List.replicate (k - q) 0) by have e := E2.out; have kk := K5.out; rw [show k - q = 0 by omega] at e ⊢; (try rw [show k - q = 0 by omega] at kk); rw [← e]; exact kk)
          go_upto_region 10 with fail
          clear p0 p1 p2 p3 hrC
          obtain ⟨p0, p1, p2, p3⟩ := blk4 K6.out.X
          obtain ⟨f0, f1, f2, f3⟩ := frz4 K6.out.X
          have K7 := hide (K6.out.setG (G + 1))
          go_wp2
          go_end0
          exact ⟨rfl, by rw [← HQ.out]; exact K7.out⟩
        · have hcC3 : ¬ cC = q := by omega
          obtain ⟨p0, p1, p2, p3⟩ := blk4 KB.out.X
          obtain ⟨w5, hw5⟩ : ∃ y, y = wr.setCells gN q (mapS (List.replicate (k - q) e0)) := ⟨_, rfl⟩
          have hrN : ∀ ty, (Builtin.clear_ #[22] ty #[.slice (some ⟨gN, q, none⟩) (k - q) (cN - q)]).run Try.prog wr = .ok (.tuple #[]) w5 := fun ty => by rw [hw5]; exact KB.out.clearN3 q hlf _ _ ty (fun _ => ⟨rfl, rfl⟩)
          have K5 := hide (show BxH w w5 zb base gN cN gC cC k G T (lfN h k ++ List.replicate (k - q) e0) R2 by rw [hw5, ← E1.out]; exact KB.out.setsN _ _)
          clear hw5
          go_upto_region 9 with fail
          clear p0 p1 p2 p3 hrN
          obtain ⟨p0, p1, p2, p3⟩ := blk4 K5.out.X
          obtain ⟨w6, hw6⟩ : ∃ y, y = w5.setCells gC q (ints (List.replicate (k - q) 0)) := ⟨_, rfl⟩
          have hrC : ∀ ty, (Builtin.clear_ #[23] ty #[.slice (some ⟨gC, q, none⟩) (k - q) (cC - q)]).run Try.prog w5 = .ok (.tuple #[]) w6 := fun ty => by rw [hw6]; exact K5.out.clearC3 q hlf _ _ ty (fun _ => ⟨rfl, rfl⟩)
          have K6 := hide (show BxH w w6 zb base gN cN gC cC k G T (lfN h k ++ List.replicate (k - q) e0) (lfC h k ++ List.replicate (k - q) 0) by rw [hw6, ← E2.out]; exact K5.out.setsC _ _)
          clear hw6
          go_upto_region 10 with fail
          clear p0 p1 p2 p3 hrC
          obtain ⟨p0, p1, p2, p3⟩ := blk4 K6.out.X
          obtain ⟨f0, f1, f2, f3⟩ := frz4 K6.out.X
          have K7 := hide (K6.out.setG (G + 1))
          go_wp2
          go_end0
          exact ⟨rfl, by rw [← HQ.out]; exact K7.out⟩
end Go.Proofs.Yticgejaaoamhmao.L15H

namespace Go.Proofs.Yticgejaaoamhmao.L15H
open Go.RowKit L1 Own Str
set_option linter.unusedVariables false

set_option maxRecDepth 100000 in
set_option maxHeartbeats 1000000 in
theorem cloneS_any (a : Option Addr) (l : List ByteArray) (n cap : Nat) (w : World) (hn : l.length = n) (h0 : 0 < n) (hm : n ≤ 1048576) (hs : SlS w a l) :
    Calls Try.prog 41 #[.slice a n cap] w fun e w' => ∃ a' c', e = .returned (.slice a' n c') ∧ w'.ownsRow w.heap.size 9 1 (.slice a' n c') n (mapS l) ∧ Below w.heap.size w w' := by
  obtain ⟨b, off, rfl, _⟩ := hs 0 (by omega)
  have hnil : ∀ w, (binOp .eql 22 (.slice (some ⟨b, off, none⟩) n cap) (.slice none 0 0)).run Try.prog w = .ok (.bool false) w := fun w => Lib.run_eql_slice_nil w _ _ _ _ _ _ _ Try.underlying22
  have E1 := hide ((Below.refl w.heap.size w).alloc (Nat.le_refl _) (.cells #[] 9))
  have HS := hide hs
  have HN := hide hn
  clear hs hn
  go_enter Try.func41, Try.ntmps41
  go_wp2_with (first
    | (at_builtin; refine wpList_append_H apT_str rfl _ _ rfl w.heap.size (.slice (some ⟨w.heap.size, 0, none⟩) 0 0) 0 [] rfl (own_emptyH w 9 _ (Nat.le_refl _)) (some ⟨b, off, none⟩) n cap rfl (mapS l) (by simp [mapS]; exact HN.out) (cellsS_H (HS.out.below E1.out) HN.out) (onesS_H _) (by omega) (by simp) ?_)
    | go_in)
  intro v3 w3 ho3 hg3 _
  have hb3 : Below w.heap.size w w3 := E1.out.grown hg3 (by simp) (fun q hq => by cases hq; exact Nat.le_refl _)
  try simp only [List.nil_append, Nat.zero_add] at ho3
  obtain ⟨a3, c3, rfl, _⟩ := own_capH ho3
  have O3 := hide ho3
  have B3 := hide hb3
  clear ho3 hg3 hb3
  go_wp2
  go_ret
  exact ⟨_, _, rfl, O3.out, B3.out⟩
set_option maxRecDepth 100000 in
set_option maxHeartbeats 1000000 in
theorem cloneI_any (a : Option Addr) (l : List Int) (n cap : Nat) (w : World) (hn : l.length = n) (h0 : 0 < n) (hm : n ≤ 1048576) (hs : Sl w a l) :
    Calls Try.prog 42 #[.slice a n cap] w fun e w' => ∃ a' c', e = .returned (.slice a' n c') ∧ w'.ownsRow w.heap.size 3 1 (.slice a' n c') n (ints l) ∧ Below w.heap.size w w' := by
  obtain ⟨b, off, rfl, _⟩ := hs 0 (by omega)
  have hnil : ∀ w, (binOp .eql 23 (.slice (some ⟨b, off, none⟩) n cap) (.slice none 0 0)).run Try.prog w = .ok (.bool false) w := fun w => Lib.run_eql_slice_nil w _ _ _ _ _ _ _ Try.underlying23
  have E1 := hide ((Below.refl w.heap.size w).alloc (Nat.le_refl _) (.cells #[] 3))
  have HS := hide hs
  have HN := hide hn
  clear hs hn
  go_enter Try.func42, Try.ntmps42
  go_wp2_with (first
    | (at_builtin; refine wpList_append_H apT_int rfl _ _ rfl w.heap.size (.slice (some ⟨w.heap.size, 0, none⟩) 0 0) 0 [] rfl (own_emptyH w 3 _ (Nat.le_refl _)) (some ⟨b, off, none⟩) n cap rfl (ints l) (by simp; exact HN.out) (cellsI_H (HS.out.below E1.out) HN.out) (onesI_H _) (by omega) (by simp) ?_)
    | go_in)
  intro v3 w3 ho3 hg3 _
  have hb3 : Below w.heap.size w w3 := E1.out.grown hg3 (by simp) (fun q hq => by cases hq; exact Nat.le_refl _)
  try simp only [List.nil_append, Nat.zero_add] at ho3
  obtain ⟨a3, c3, rfl, _⟩ := own_capH ho3
  have O3 := hide ho3
  have B3 := hide hb3
  clear ho3 hg3 hb3
  go_wp2
  go_ret
  exact ⟨_, _, rfl, O3.out, B3.out⟩
end Go.Proofs.Yticgejaaoamhmao.L15H

namespace Go.Proofs.Yticgejaaoamhmao.L15H
open Go.RowKit L1 Own Str
set_option linter.unusedVariables false

set_option maxRecDepth 100000 in
set_option maxHeartbeats 1000000 in
theorem goodPlace_any (s : ByteArray) (c : Int) (w : World) (hs : s.size ≤ 9223372036854775807) (bb : Bool) (hbb : bb = true ↔ L3.Word false s ∧ 1 ≤ c ∧ c ≤ 100000) :
    Calls Try.prog 67 #[.string s, .int .i64 c] w fun e w' => e = .returned (.bool bb) ∧ Below w.heap.size w w' := by
  obtain ⟨bw, hbw⟩ := dec_exH (L3.Word false s)
  have C := hide (fun wx => L3.isName_any s wx hs bw hbw)
  cases bw with
  | false =>
    obtain rfl : bb = false := bool_noG hbb (fun h => by have := hbw.2 h.1; cases this)
    clear hbb hbw
    go_enter Try.func67, Try.ntmps67
    go_wp2_with fail
    refine (C.out _).mono ?_
    rintro e w1 ⟨rfl, hb⟩
    go_wp2
    go_ret
    exact ⟨rfl, hb⟩
  | true =>
    have hw := hbw.1 rfl
    by_cases h1 : c ≥ 1
    · have E : Hid (bb = decide (c ≤ 100000)) := hide (by rw [Bool.eq_iff_iff, hbb]; simp; exact ⟨fun q => q.2.2, fun q => ⟨hw, h1, q⟩⟩)
      clear hbb hbw hw
      go_enter Try.func67, Try.ntmps67
      go_wp2_with fail
      refine (C.out _).mono ?_
      rintro e w1 ⟨rfl, hb⟩
      go_wp2
      go_ret
      exact ⟨by rw [E.out]; rfl, hb⟩
    · obtain rfl : bb = false := bool_noG hbb (fun h => h1 h.2.1)
      clear hbb hbw hw
      go_enter Try.func67, Try.ntmps67
      go_wp2_with fail
      refine (C.out _).mono ?_
      rintro e w1 ⟨rfl, hb⟩
      go_wp2
      go_ret
      exact ⟨rfl, hb⟩
set_option maxRecDepth 100000 in
set_option maxHeartbeats 1000000 in
theorem isEmptyPlace_any (s : ByteArray) (c : Int) (w : World) (bb : Bool) (hbb : bb = true ↔ s = e0 ∧ c = 0) :
    Calls Try.prog 68 #[.string s, .int .i64 c] w fun e w' => e = .returned (.bool bb) ∧ w = w' := by
  by_cases hs : s = e0
  · subst hs
    have E : Hid (bb = (c == 0)) := hide (by rw [Bool.eq_iff_iff, hbb]; simp)
    clear hbb
    go_enter Try.func68, Try.ntmps68
    go_wp2
    go_ret
    exact ⟨by rw [E.out]; rfl, rfl⟩
  · obtain rfl : bb = false := bool_noG hbb (fun h => hs h.1)
    have hs2 := ne_list hs
    clear hbb
    go_enter Try.func68, Try.ntmps68
    go_wp2
    go_ret
    exact ⟨rfl, rfl⟩
set_option maxRecDepth 100000 in
set_option maxHeartbeats 1000000 in
theorem indexE_any (a : Option Addr) (xs : List ByteArray) (n cap k : Nat) (w : World) (hn : xs.length = n) (hs : SlS w a xs) (hn2 : n ≤ 1048576) (hk : IsTk xs n k) (r : Int) (hr : r = if k < n then (k : Int) else -1) :
    Calls Try.prog 72 #[.slice a n cap, .string ByteArray.empty] w fun e w' => e = .returned (.int .i64 r) ∧ w = w' := by
  have HS := hide hs
  have HN := hide hn
  have HK := hide hk
  have HR := hide hr
  have hkn := hk.le
  clear hs hn hk hr
  go_enter Try.func72, Try.ntmps72
  go_wp2
  go_loop [8] (fun i => ∃ j : Nat, j ≤ k ∧ i = .int .i64 j ∧ Hid True) (fun i => k - (intOf i).toNat)
  case atStart => exact ⟨0, Nat.zero_le _, rfl, hide trivial⟩
  case round =>
    obtain ⟨j, hj, rfl, HTR⟩ := hrel
    by_cases hlt : j < n
    · obtain ⟨b, off, rfl, hc⟩ := HS.out j (by rw [HN.out]; exact hlt)
      have hltI : (j : Int) < (n : Int) := by omega
      have hj0 : (0 : Int) ≤ (j : Int) := by omega
      by_cases e : j = k
      · have hx := HK.out.emp (by omega)
        subst e
        rw [hx] at hc
        have E : Hid (r = (j : Int)) := hide (by rw [HR.out, if_pos hlt])
        clear hx
        go_wp2
        go_ret
        exact ⟨by rw [E.out]; rfl, rfl⟩
      · have hx := HK.out.ne j (by omega)
        obtain ⟨x, hxx⟩ : ∃ x, x = xs.getD j e0 := ⟨_, rfl⟩
        rw [← hxx] at hc hx
        have hx2 := ne_list hx
        clear hxx hx
        go_wp2
        go_round
        case rel => exact ⟨j + 1, by omega, by go_num, HTR⟩
        case measure => simp [intOf]; omega
    · have hltI : ¬ (j : Int) < (n : Int) := by omega
      have E : Hid (r = -1) := hide (by rw [HR.out, if_neg (by omega)])
      go_wp2
      go_ret
      exact ⟨by rw [E.out]; rfl, rfl⟩
set_option maxRecDepth 100000 in
set_option maxHeartbeats 1000000 in
theorem takenPlaces_any (a : Option Addr) (n c : Nat) (b : Option Addr) (m d : Nat) (G T : Int) (h : Hv) (k : Nat) (w : World) (hf : HF w a b n m h) (hn2 : n ≤ 1048576) (hk : IsTk h.nm n k) :
    Calls Try.prog 44 #[.agg #[.slice a n c, .slice b m d, .int .i64 G, .int .i64 T]] w fun e w' => e = .returned (.int .i64 (k : Int)) ∧ Below w.heap.size w w' := by
  have BX := (Below.refl w.heap.size w).alloc (Nat.le_refl _) (hvO (.slice a n c) (.slice b m d) G T)
  have g0 := L8.blk_new w (hvO (.slice a n c) (.slice b m d) G T)
  obtain ⟨W0, hW0⟩ : ∃ W0, W0 = w.alloc (hvO (.slice a n c) (.slice b m d) G T) := ⟨_, rfl⟩
  rw [← hW0] at BX g0
  obtain ⟨k0, k1, k2, k3⟩ := blk4 g0
  have HW := hide hW0
  have B0 := hide BX
  have hkn := hk.le
  obtain ⟨r, hr⟩ : ∃ r : Int, r = if k < n then (k : Int) else -1 := ⟨_, rfl⟩
  have C := hide (indexE_any a h.nm n c k W0 hf.ln (hf.sN.below BX) hn2 hk r hr)
  clear hf hk BX g0 hW0
  by_cases hlt : k < n
  · obtain rfl : r = (k : Int) := by rw [hr, if_pos hlt]
    have hr0 : ¬ (k : Int) < 0 := by omega
    clear hr
    go_enter Try.func44, Try.ntmps44
    go_upto_region 1 with fail
    rw [← HW.out]
    go_wp2_with fail
    refine C.out.mono ?_
    rintro e w1 ⟨rfl, rfl⟩
    go_wp2
    go_ret
    exact ⟨rfl, B0.out⟩
  · obtain rfl : r = -1 := by rw [hr, if_neg hlt]
    obtain rfl : k = n := by omega
    clear hr
    go_enter Try.func44, Try.ntmps44
    go_upto_region 1 with fail
    rw [← HW.out]
    go_wp2_with fail
    refine C.out.mono ?_
    rintro e w1 ⟨rfl, rfl⟩
    go_wp2
    go_ret
    exact ⟨rfl, B0.out⟩
end Go.Proofs.Yticgejaaoamhmao.L15H

namespace Go.Proofs.Yticgejaaoamhmao.L15H
open Go.RowKit L1 Own Str
set_option linter.unusedVariables false

set_option maxRecDepth 100000 in
set_option maxHeartbeats 4000000 in
theorem findPlace_any (a : Option Addr) (n c : Nat) (b : Option Addr) (m d : Nat) (G T : Int) (h : Hv) (s : ByteArray) (tk p : Nat) (ok : Bool) (w : World) (hf : HF w a b n m h) (hn0 : 0 < n) (hn2 : n ≤ 1048576) (hc : n ≤ c) (hk : IsTk h.nm n tk) (hr : Rise h.nm tk) (hp : IsAt h.nm tk s p) (hok : ok = true ↔ p < tk ∧ na h p = s) :
    Calls Try.prog 43 #[.agg #[.slice a n c, .slice b m d, .int .i64 G, .int .i64 T], .string s] w fun e w' => e = .returned (.tuple #[.int .i64 (p : Int), .bool ok]) ∧ Below w.heap.size w w' := by
  obtain ⟨ba, oa, rfl, _⟩ := hf.sN 0 (by rw [hf.ln]; exact hn0)
  have BX := (Below.refl w.heap.size w).alloc (Nat.le_refl _) (hvO (.slice (some ⟨ba, oa, none⟩) n c) (.slice b m d) G T)
  have g0 := L8.blk_new w (hvO (.slice (some ⟨ba, oa, none⟩) n c) (.slice b m d) G T)
  obtain ⟨W0, hW0⟩ : ∃ W0, W0 = w.alloc (hvO (.slice (some ⟨ba, oa, none⟩) n c) (.slice b m d) G T) := ⟨_, rfl⟩
  rw [← hW0] at BX g0
  obtain ⟨k0, k1, k2, k3⟩ := blk4 g0
  have HW := hide hW0
  have B0 := hide BX
  have F0 := hide (hf.below BX)
  have hkn := hk.le
  have hkc : (tk : Int) ≤ (c : Int) := by omega
  have hk0 : (0 : Int) ≤ (tk : Int) := by omega
  have CT := hide (fun wx (hb : Below W0.heap.size W0 wx) => takenPlaces_any (some ⟨ba, oa, none⟩) n c b m d G T h tk wx (F0.out.below hb) hn2 hk)
  have CS := hide (fun wx (hb : Below W0.heap.size W0 wx) => searchS_any (some ⟨ba, oa, none⟩) h.nm tk c s wx (by rw [hf.ln]; exact hkn) (by omega) (fun i hi => (F0.out.below hb).sN i (by rw [hf.ln]; omega)) hr p hp ok hok)
  clear hf hk hr hp hok BX g0 hW0
  go_enter Try.func43, Try.ntmps43
  go_upto_region 1 with fail
  rw [← HW.out]
  refine wp_region_held_drew (S := (fun wx => (wx.cell? ⟨w.heap.size, 0, none⟩ = some (.slice (some ⟨ba, oa, none⟩) n c) ∧ wx.cell? ⟨w.heap.size, 1, none⟩ = some (.slice b m d) ∧ wx.cell? ⟨w.heap.size, 2, none⟩ = some (.int .i64 G) ∧ wx.cell? ⟨w.heap.size, 3, none⟩ = some (.int .i64 T)) ∧ Below W0.heap.size W0 wx)) (by kernel_rfl) ⟨⟨k0, k1, k2, k3⟩, (Below.refl _ _).drew⟩ (fun hHeld => ?_)
  refine wpAnyH_take (i := 0) (v := ?v1) rfl (by kernel_rfl) (by kernel_rfl) (by kernel_rfl) (fun _ _ _ h => h) (Or.inl ⟨by rfl, ?y1⟩) (by assumption) ?r1
  case y1 => (intro w hSw; (try dsimp only at hSw); go_simp; try (with_reducible rfl))
  simp only [List.getElem_toArray, List.getElem_cons_zero, Act.put, List.setIfInBounds_toArray, List.set_cons_zero, List.set_cons_succ]
  refine wpAnyH_take (i := 1) (v := ?v2) rfl (by kernel_rfl) (by kernel_rfl) (by kernel_rfl) (fun _ _ _ h => h) (Or.inl ⟨by rfl, ?y2⟩) (by assumption) ?r2
  case y2 => (intro w hSw; (try dsimp only at hSw); go_simp; try (with_reducible rfl))
  simp only [List.getElem_toArray, List.getElem_cons_succ, List.getElem_cons_zero, Act.put, List.setIfInBounds_toArray, List.set_cons_zero, List.set_cons_succ]
  refine wpAnyH_take (i := 2) (v := ?v3) rfl (by kernel_rfl) (by kernel_rfl) (by kernel_rfl) (fun _ _ _ h => h) (Or.inl ⟨by rfl, ?y3⟩) (by assumption) ?r3
  case y3 => (intro w hSw; (try dsimp only at hSw); go_simp; try (with_reducible rfl))
  simp only [List.getElem_toArray, List.getElem_cons_succ, List.getElem_cons_zero, Act.put, List.setIfInBounds_toArray, List.set_cons_zero, List.set_cons_succ]
  refine wpAnyH_take (i := 5) (v := ?v4) rfl (by kernel_rfl) (by kernel_rfl) (by kernel_rfl) (fun _ _ _ h => h) (Or.inl ⟨by rfl, ?y4⟩) (by assumption) ?r4
  case y4 => (intro w hSw; (try dsimp only at hSw); go_simp; try (with_reducible rfl))
  simp only [List.getElem_toArray, List.getElem_cons_succ, List.getElem_cons_zero, Act.put, List.setIfInBounds_toArray, List.set_cons_zero, List.set_cons_succ]
  refine wpAnyH_ready (rs := [3]) (by kernel_rfl) (by simp) ?_
  refine AllReadyH.cons rfl (fun K hK => ?_) AllReadyH.nil
  simp only [List.getElem_toArray, List.getElem_cons_succ, List.getElem_cons_zero]
  go_simp
  go_at_call 44
  refine (CT.out _ hHeld.2).mono ?_
  rintro e w5 ⟨rfl, hb⟩
  have E5 := hide (hHeld.2.trans (hb.mono hHeld.2.size))
  dsimp only
  refine hK.out _ _ ?_ (fun hHeld => ?_)
  · exact L8.keep4 hHeld hb (Nat.le_refl _)
  clear hK K
  try simp only [Act.put, List.setIfInBounds_toArray, List.set_cons_zero, List.set_cons_succ]
  clear hb
  refine wpAnyH_take (i := 4) (v := ?v5) rfl (by kernel_rfl) (by kernel_rfl) (by kernel_rfl) (fun _ _ _ h => h) (Or.inl ⟨by rfl, ?y5⟩) (by assumption) ?r5
  case y5 => (intro w hSw; (try dsimp only at hSw); go_simp; try (with_reducible rfl))
  simp only [List.getElem_toArray, List.getElem_cons_succ, List.getElem_cons_zero, Act.put, List.setIfInBounds_toArray, List.set_cons_zero, List.set_cons_succ]
  refine wpAnyH_ready (rs := [6]) (by kernel_rfl) (by simp) ?_
  refine AllReadyH.cons rfl (fun K hK => ?_) AllReadyH.nil
  simp only [List.getElem_toArray, List.getElem_cons_succ, List.getElem_cons_zero]
  go_simp
  go_at_call 71
  refine (CS.out _ hHeld.2).mono ?_
  rintro e w6 ⟨rfl, hh⟩
  have hh' := hh.symm
  clear hh
  subst hh'
  dsimp only
  refine hK.out _ _ ?_ (fun hHeld => ?_)
  · exact hHeld
  clear hK K
  try simp only [Act.put, List.setIfInBounds_toArray, List.set_cons_zero, List.set_cons_succ]
  refine wpAnyH_take (i := 7) (v := ?v6) rfl (by kernel_rfl) (by kernel_rfl) (by kernel_rfl) (fun _ _ _ h => h) (Or.inl ⟨by rfl, ?y6⟩) (by assumption) ?r6
  case y6 => (intro w hSw; (try dsimp only at hSw); go_simp; try (with_reducible rfl))
  simp only [List.getElem_toArray, List.getElem_cons_succ, List.getElem_cons_zero, Act.put, List.setIfInBounds_toArray, List.set_cons_zero, List.set_cons_succ]
  refine wpAnyH_take (i := 8) (v := ?v7) rfl (by kernel_rfl) (by kernel_rfl) (by kernel_rfl) (fun _ _ _ h => h) (Or.inl ⟨by rfl, ?y7⟩) (by assumption) ?r7
  case y7 => (intro w hSw; (try dsimp only at hSw); go_simp; try (with_reducible rfl))
  simp only [List.getElem_toArray, List.getElem_cons_succ, List.getElem_cons_zero, Act.put, List.setIfInBounds_toArray, List.set_cons_zero, List.set_cons_succ]
  refine wpAnyH_take (i := 9) (v := ?v8) rfl (by kernel_rfl) (by kernel_rfl) (by kernel_rfl) (fun _ _ _ h => h) (Or.inl ⟨by rfl, ?y8⟩) (by assumption) ?r8
  case y8 => (intro w hSw; (try dsimp only at hSw); go_simp; try (with_reducible rfl))
  simp only [List.getElem_toArray, List.getElem_cons_succ, List.getElem_cons_zero, Act.put, List.setIfInBounds_toArray, List.set_cons_zero, List.set_cons_succ]
  refine wpAnyH_take (i := 10) (v := ?v9) rfl (by kernel_rfl) (by kernel_rfl) (by kernel_rfl) (fun _ _ _ h => h) (Or.inl ⟨by rfl, ?y9⟩) (by assumption) ?r9
  case y9 => (intro w hSw; (try dsimp only at hSw); go_simp; try (with_reducible rfl))
  simp only [List.getElem_toArray, List.getElem_cons_succ, List.getElem_cons_zero, Act.put, List.setIfInBounds_toArray, List.set_cons_zero, List.set_cons_succ]
  refine wpAnyH_done (by kernel_rfl) ?_ _
  have BF := hide (B0.out.trans (hHeld.2.mono B0.out.size))
  clear hHeld
  go_wp2
  go_ret2
  exact ⟨rfl, BF.out⟩
end Go.Proofs.Yticgejaaoamhmao.L15H

namespace Go.Proofs.Yticgejaaoamhmao.L15H
open Go.RowKit L1 Own Str
set_option linter.unusedVariables false

set_option maxRecDepth 100000 in
set_option maxHeartbeats 8000000 in
theorem goodHeavy_any (a : Option Addr) (n c : Nat) (b : Option Addr) (m d : Nat) (G T : Int) (h : Hv) (w : World) (hf : HF w a b n m h) (hg : h.g = G) (ht : h.t = T) (hn2 : n ≤ 1048576) (hm2 : m ≤ 1048576) (htx : ∀ i, i < h.nm.length → (h.nm.getD i e0).size ≤ 1048576) (bb : Bool) (hbb : bb = true ↔ GoodHv h n m) :
    Calls Try.prog 39 #[.agg #[.slice a n c, .slice b m d, .int .i64 G, .int .i64 T]] w fun e w' => e = .returned (.bool bb) ∧ Below w.heap.size w w' := by
  have BX := (Below.refl w.heap.size w).alloc (Nat.le_refl _) (hvO (.slice a n c) (.slice b m d) G T)
  have g0 := L8.blk_new w (hvO (.slice a n c) (.slice b m d) G T)
  obtain ⟨W0, hW0⟩ : ∃ W0, W0 = w.alloc (hvO (.slice a n c) (.slice b m d) G T) := ⟨_, rfl⟩
  rw [← hW0] at BX g0
  obtain ⟨k0, k1, k2, k3⟩ := blk4 g0
  have HW := hide hW0
  have B0 := hide BX
  have G0 := hide g0
  have F0 := hide (hf.below BX)
  have HBB := hide hbb
  have HTX := hide htx
  have HG := hide hg
  have HT := hide ht
  clear hf hbb htx hg ht BX g0 hW0
  obtain ⟨b1, hb1⟩ := dec_exH (1 ≤ (n : Int) ∧ (n : Int) ≤ 6)
  have C1 := hide (fun wx => isPlaceCount_any (n : Int) wx b1 hb1)
  by_cases c1 : 1 ≤ (n : Int) ∧ (n : Int) ≤ 6
  rotate_left
  · obtain rfl : b1 = false := bool_noG hb1 c1
    obtain rfl : bb = false := bool_noG HBB.out (fun g => c1 ⟨by have := g.n1; omega, by have := g.n6; omega⟩)
    go_enter Try.func39, Try.ntmps39
    go_upto_region 1 with fail
    rw [← HW.out]
    go_wp2_with fail
    refine (C1.out _).mono ?_
    rintro e w1 ⟨rfl, rfl⟩
    go_wp2
    go_ret
    exact ⟨rfl, B0.out⟩
  obtain rfl : b1 = true := hb1.2 c1
  clear hb1
  by_cases c2 : m = n
  rotate_left
  · have hd : ((m : Int) != (n : Int)) = true := by simp; omega
    obtain rfl : bb = false := bool_noG HBB.out (fun g => c2 g.m)
    go_enter Try.func39, Try.ntmps39
    go_upto_region 1 with fail
    rw [← HW.out]
    go_wp2_with fail
    refine (C1.out _).mono ?_
    rintro e w1 ⟨rfl, rfl⟩
    go_wp2
    go_ret
    exact ⟨rfl, B0.out⟩
  subst c2
  by_cases c3 : G < 0
  · have c3' : ¬ 0 ≤ G := by omega
    obtain rfl : bb = false := bool_noG HBB.out (fun g => c3' (by have h1 := g.g0; rw [HG.out] at h1; exact h1))
    go_enter Try.func39, Try.ntmps39
    go_upto_region 1 with fail
    rw [← HW.out]
    go_wp2_with fail
    refine (C1.out _).mono ?_
    rintro e w1 ⟨rfl, rfl⟩
    go_wp2
    go_ret
    exact ⟨rfl, B0.out⟩
  by_cases c4 : G > 100000
  · have c4' : ¬ G ≤ 100000 := by omega
    obtain rfl : bb = false := bool_noG HBB.out (fun g => c4' (by have h1 := g.g1; rw [HG.out] at h1; exact h1))
    go_enter Try.func39, Try.ntmps39
    go_upto_region 1 with fail
    rw [← HW.out]
    go_wp2_with fail
    refine (C1.out _).mono ?_
    rintro e w1 ⟨rfl, rfl⟩
    go_wp2
    go_ret
    exact ⟨rfl, B0.out⟩
  have cG0 : 0 ≤ G := by omega
  have cG1 : G ≤ 100000 := by omega
  have hmb := mul_bd cG0 cG1 (n := m) (by omega)
  obtain ⟨tk, htk⟩ := tk_ex h.nm m
  have HTK := hide htk
  have htkm := htk.le
  have CT := hide (takenPlaces_any a m c b m d G T h tk W0 F0.out hn2 htk)
  clear htk
  go_enter Try.func39, Try.ntmps39
  go_upto_region 1 with fail
  rw [← HW.out]
  go_wp2_with fail
  refine (C1.out _).mono ?_
  rintro e w1 ⟨rfl, rfl⟩
  go_wp2_with fail
  refine CT.out.mono ?_
  rintro e w2 ⟨rfl, hb2⟩
  have B2 := hide hb2
  have F2 := hide (F0.out.below hb2)
  clear hb2 k0 k1 k2 k3
  obtain ⟨k0, k1, k2, k3⟩ := blk4 (blk_kept G0.out B2.out)
  go_wp2
  clear k0 k1 k2 k3
  go_loopw [5, 36] (fun s t wr => ∃ k : Nat, k ≤ m ∧ t = .int .i64 k ∧ s = .int .i64 (sm h.ct k) ∧ Hid (∀ j, j < k → PlOk h j) ∧ Hid (Below W0.heap.size W0 wr)) (fun _ t _ => m - (intOf t).toNat)
  case atStart => exact ⟨0, Nat.zero_le _, rfl, rfl, fun j hj => absurd hj (Nat.not_lt_zero _), B2⟩
  case round =>
    obtain ⟨k, hk, rfl, rfl, HJ, BW⟩ := hrel
    obtain ⟨k0, k1, k2, k3⟩ := blk4 (blk_kept G0.out BW.out)
    have hyb := sm_bd (l := h.ct) k (fun j hj => (HJ.out j hj).ct)
    by_cases hlt : k < m
    · have hltI : (k : Int) < (m : Int) := by omega
      have hk0 : (0 : Int) ≤ (k : Int) := by omega
      obtain ⟨ba, oa, rfl, hc⟩ := (F0.out.below BW.out).sN k (by rw [F0.out.ln]; exact hlt)
      obtain ⟨bc, oc, rfl, hd⟩ := (F0.out.below BW.out).sC k (by rw [F0.out.lc]; exact hlt)
      have hsz : (na h k).size ≤ 1048576 := HTX.out k (by rw [F0.out.ln]; exact hlt)
      obtain ⟨x, hx⟩ : ∃ x, x = na h k := ⟨_, rfl⟩
      obtain ⟨y, hy⟩ : ∃ y, y = ca h k := ⟨_, rfl⟩
      rw [show h.nm.getD k e0 = x from hx.symm] at hc
      rw [show h.ct.getD k 0 = y from hy.symm] at hd
      rw [← hx] at hsz
      have HX := hide hx
      have HY := hide hy
      have bad : (∀ g : GoodHv h m m, False) → Hid (bb = false) := fun q => hide (bool_noG HBB.out (fun g => q g))
      have hss : sm h.ct (k + 1) = sm h.ct k + y := by rw [hy]; rfl
      obtain ⟨u, hu⟩ : ∃ u, u = sm h.ct k := ⟨_, rfl⟩
      rw [← hu] at hyb hss ⊢
      have HSS := hide hss
      clear hx hy hss hu
      have HB0 := hide (fun (wz : World) (hb : Below wr.heap.size wr wz) => BW.out.trans (hb.mono BW.out.size))
      by_cases hkt : k < tk
      · have hktI : (k : Int) < (tk : Int) := by omega
        have hktG : ¬ (k : Int) ≥ (tk : Int) := by omega
        have hne : x ≠ e0 := by rw [HX.out]; exact HTK.out.ne k hkt
        obtain ⟨b5, hb5⟩ := dec_exH (L3.Word false x ∧ 1 ≤ y ∧ y ≤ 100000)
        have C5 := hide (fun wx => goodPlace_any x y wx (by omega) b5 hb5)
        by_cases h5 : L3.Word false x ∧ 1 ≤ y ∧ y ≤ 100000
        rotate_left
        · obtain rfl : b5 = false := bool_noG hb5 h5
          have EB := bad (fun g => by
            rcases g.p k hlt with ⟨h0, _⟩ | ⟨h1, _⟩
            · exact hne (by rw [HX.out]; exact h0)
            · exact h5 (by rw [HX.out, HY.out]; exact h1))
          clear bad hb5 HSS
          go_wp2_with fail
          refine (C5.out _).mono ?_
          rintro e w5 ⟨rfl, hb⟩
          have BF := hide (B0.out.trans ((HB0.out _ hb).mono B0.out.size))
          clear hb
          go_wp2
          go_ret
          exact ⟨by rw [EB.out]; rfl, BF.out⟩
        obtain rfl : b5 = true := hb5.2 h5
        have hyr := h5.2
        clear hb5
        cases k with
        | zero =>
          have P : Hid (PlOk h 0) := hide (.inr ⟨by rw [← HX.out, ← HY.out]; exact h5, fun q => absurd q (Nat.lt_irrefl _)⟩)
          have h00 : ¬ ((0 : Nat) : Int) > 0 := by omega
          rw [Nat.add_zero] at hc hd
          clear bad
          go_wp2_with fail
          refine (C5.out _).mono ?_
          rintro e w5 ⟨rfl, hb⟩
          have BF := hide (HB0.out _ hb)
          have hd5 := (hb.cell (p := ⟨bc, oc, none⟩) (blk_ltO hd)).trans hd
          clear hb k0 k1 k2 k3 hc hd
          obtain ⟨k0, k1, k2, k3⟩ := blk4 (blk_kept G0.out BF.out)
          go_wp2
          go_roundw
          case rel => exact ⟨0 + 1, by omega, by go_num, by rw [HSS.out], fun j hj => by
            obtain rfl : j = 0 := by omega
            exact P.out, BF⟩
          case measure => simp [intOf]; omega
        | succ q =>
          obtain ⟨b2, o2, e2, hp⟩ := (F0.out.below BW.out).sN q (by rw [F0.out.ln]; omega)
          obtain ⟨rfl, rfl⟩ : ba = b2 ∧ oa = o2 := by cases e2; exact ⟨rfl, rfl⟩
          obtain ⟨p, hpp⟩ : ∃ p, p = na h q := ⟨_, rfl⟩
          rw [show h.nm.getD q e0 = p from hpp.symm] at hp
          have HP := hide hpp
          have hqI : (q : Int) < (m : Int) := by omega
          have hq0 : (0 : Int) ≤ (q : Int) := by omega
          have hqp : ((q : Int) + 1) > 0 := by omega
          have hqm : (q : Int) + 1 - 1 = (q : Int) := by omega
          have hpne : p ≠ e0 := by rw [HP.out]; exact HTK.out.ne q (by omega)
          clear hpp e2
          by_cases hah : L3.Ahead p x
          · have P : Hid (PlOk h (q + 1)) := hide (.inr ⟨by rw [← HX.out, ← HY.out]; exact h5, fun _ => by rw [Nat.add_sub_cancel, ← HP.out, ← HX.out]; exact ⟨hpne, hah⟩⟩)
            obtain ⟨hl1, hl2⟩ := L3.ahead_not hah
            have hle : (Op.bytesLess x.toList p.toList || x.toList == p.toList) = false := by rw [hl1, hl2]; rfl
            clear bad
            go_wp2_with fail
            refine (C5.out _).mono ?_
            rintro e w5 ⟨rfl, hb⟩
            have BF := hide (HB0.out _ hb)
            have hd5 := (hb.cell (p := ⟨bc, oc + (q + 1), none⟩) (blk_ltO hd)).trans hd
            have hp5 := (hb.cell (p := ⟨ba, oa + q, none⟩) (blk_ltO hp)).trans hp
            clear hb k0 k1 k2 k3 hc hd hp
            obtain ⟨k0, k1, k2, k3⟩ := blk4 (blk_kept G0.out BF.out)
            go_wp2
            go_roundw
            case rel => exact ⟨q + 1 + 1, by omega, by go_num, by rw [HSS.out], fun j hj => by
              by_cases e : j = q + 1
              · subst e; exact P.out
              · exact HJ.out j (by omega), BF⟩
            case measure => simp [intOf]; omega
          · have EB := bad (fun g => by
              rcases g.p (q + 1) hlt with ⟨h0, _⟩ | ⟨_, h1⟩
              · exact hne (by rw [HX.out]; exact h0)
              · exact hah (by have := (h1 (by omega)).2; rw [Nat.add_sub_cancel, ← HP.out, ← HX.out] at this; exact this))
            have hle := L3.not_ahead hah
            clear bad HSS
            go_wp2_with fail
            refine (C5.out _).mono ?_
            rintro e w5 ⟨rfl, hb⟩
            have BF := hide (HB0.out _ hb)
            have hp5 := (hb.cell (p := ⟨ba, oa + q, none⟩) (blk_ltO hp)).trans hp
            have BR := hide (B0.out.trans (BF.out.mono B0.out.size))
            clear hb k0 k1 k2 k3 hc hd hp
            obtain ⟨k0, k1, k2, k3⟩ := blk4 (blk_kept G0.out BF.out)
            go_wp2
            go_ret
            exact ⟨by rw [EB.out]; rfl, BR.out⟩
      · have hktI : ¬ (k : Int) < (tk : Int) := by omega
        have hktG : (k : Int) ≥ (tk : Int) := by omega
        obtain ⟨b5, hb5⟩ := dec_exH (x = e0 ∧ y = 0)
        have C5 := hide (fun wx => isEmptyPlace_any x y wx b5 hb5)
        by_cases h5 : x = e0 ∧ y = 0
        rotate_left
        · obtain rfl : b5 = false := bool_noG hb5 h5
          have EB := bad (fun g => h5 (by rw [HX.out, HY.out]; exact g.tail HTK.out k (by omega) hlt))
          clear bad hb5 HSS
          go_wp2_with fail
          refine (C5.out _).mono ?_
          rintro e w5 ⟨rfl, rfl⟩
          have BF := hide (B0.out.trans (BW.out.mono B0.out.size))
          go_wp2
          go_ret
          exact ⟨by rw [EB.out]; rfl, BF.out⟩
        obtain rfl : b5 = true := hb5.2 h5
        have P : Hid (PlOk h k) := hide (.inl (by rw [← HX.out, ← HY.out]; exact h5))
        obtain ⟨hx5, hy5⟩ := h5
        subst hx5
        subst hy5
        have hkg : (k : Int) > 0 ∨ ¬ (k : Int) > 0 := by omega
        clear hb5 bad
        rcases hkg with hkg | hkg
        · go_wp2_with fail
          refine (C5.out _).mono ?_
          rintro e w5 ⟨rfl, rfl⟩
          go_wp2
          go_roundw
          case rel => exact ⟨k + 1, by omega, by go_num, by first | (rw [HSS.out]; done) | (rw [HSS.out]; congr 1; omega), fun j hj => by
            by_cases e : j = k
            · subst e; exact P.out
            · exact HJ.out j (by omega), BW⟩
          case measure => simp [intOf]; omega
        · go_wp2_with fail
          refine (C5.out _).mono ?_
          rintro e w5 ⟨rfl, rfl⟩
          go_wp2
          go_roundw
          case rel => exact ⟨k + 1, by omega, by go_num, by first | (rw [HSS.out]; done) | (rw [HSS.out]; congr 1; omega), fun j hj => by
            by_cases e : j = k
            · subst e; exact P.out
            · exact HJ.out j (by omega), BW⟩
          case measure => simp [intOf]; omega
    · obtain rfl : k = m := by omega
      have hltI : ¬ (k : Int) < (k : Int) := by omega
      obtain ⟨y, hy⟩ : ∃ y, y = sm h.ct k := ⟨_, rfl⟩
      rw [← hy] at hyb ⊢
      obtain ⟨p, hp⟩ : ∃ p, p = G * ((k : Int) + 1) := ⟨_, rfl⟩
      have hpb := hmb
      rw [← hp] at hpb
      have hp2 : G * ((k : Int) + 1) = p := hp.symm
      have BF := hide (B0.out.trans (BW.out.mono B0.out.size))
      by_cases e : T = y + p
      · have e2 : (T == y + p) = true := by simp [e]
        have EBB : Hid (bb = decide (T ≤ 1000000)) := hide (by
          rw [Bool.eq_iff_iff, HBB.out]
          simp
          exact ⟨fun g => by have := g.t1; rw [HT.out] at this; exact this, fun q => ⟨by omega, by omega, rfl, by rw [HG.out]; exact cG0, by rw [HG.out]; exact cG1, HJ.out, by rw [HT.out, HG.out, ← hp, ← hy]; exact e, by rw [HT.out]; exact q⟩⟩)
        clear hy hp hmb e
        go_wp2
        go_ret
        exact ⟨by rw [EBB.out]; rfl, BF.out⟩
      · have e2 : (T == y + p) = false := by simp [e]
        have EBB : Hid (bb = false) := hide (bool_noG HBB.out (fun g => e (by have := g.t; rw [HT.out, HG.out, ← hp, ← hy] at this; exact this)))
        clear hy hp hmb
        go_wp2
        go_ret
        exact ⟨by rw [EBB.out]; rfl, BF.out⟩
end Go.Proofs.Yticgejaaoamhmao.L15H

namespace Go.Proofs.Yticgejaaoamhmao.L15H
open Go.RowKit L1 Own Str
set_option linter.unusedVariables false

/-- What a region leaves, told once for all orders. -/
def putK (a : Act) (v0 v1 v2 v3 v4 v5 v6 v7 v8 v9 v10 v11 v12 : Value) : Act := (((((((((((((a.put (some 19) v0).put (some 20) v1).put (some 21) v2).put (some 22) v3).put (some 23) v4).put (some 24) v5).put (some 25) v6).put (some 26) v7).put (some 27) v8).put (some 28) v9).put (some 29) v10).put (some 30) v11).put (some 6) v12)
theorem wp_putK {P : Program} {c : Code} {Q : Exit → Act → World → Prop} {a : Act} {w : World} (R : Value → World → Prop)
    (h : c.wp P (fun e a' w' => e = .normal ∧ ∃ v0 v1 v2 v3 v4 v5 v6 v7 v8 v9 v10 v11 v12, a' = putK a v0 v1 v2 v3 v4 v5 v6 v7 v8 v9 v10 v11 v12 ∧ R v12 w') a w)
    (k : ∀ v0 v1 v2 v3 v4 v5 v6 v7 v8 v9 v10 v11 v12 w', R v12 w' → Q .normal (putK a v0 v1 v2 v3 v4 v5 v6 v7 v8 v9 v10 v11 v12) w') : c.wp P Q a w :=
  wp_mono h (by rintro e a' w' ⟨rfl, v0, v1, v2, v3, v4, v5, v6, v7, v8, v9, v10, v11, v12, rfl, hr⟩; exact k _ _ _ _ _ _ _ _ _ _ _ _ _ _ hr)
theorem own_someK {w : World} {base n c : Nat} {t : TypeId} {a : Option Addr} {xs : List Value} (h : w.ownsRow base t 1 (.slice a n c) n xs) (h0 : 0 < n) : ∃ g, a = some ⟨g, 0, none⟩ := by
  rcases h.2 with ⟨_, h1⟩ | ⟨g, cap, cur, hv, _⟩
  · omega
  · cases hv; exact ⟨g, rfl⟩
theorem BxH.below {w x x' : World} {zb base gN cN gC cC n : Nat} {G T : Int} {L1 : List ByteArray} {L2 : List Int} (k : BxH w x zb base gN cN gC cC n G T L1 L2) (hb : Below x.heap.size x x') (hw : base ≤ x.heap.size) : BxH w x' zb base gN cN gC cC n G T L1 L2 :=
  ⟨blk_kept k.X hb, own_belO k.N hb, own_belO k.C hb, k.nN, k.nC, k.bz, Nat.le_trans k.S hb.size, k.B.trans (hb.mono hw)⟩
theorem BxH.hf {w x : World} {zb base gN cN gC cC n : Nat} {G T : Int} {h : Hv} (k : BxH w x zb base gN cN gC cC n G T h.nm h.ct) : HF x (some ⟨gN, 0, none⟩) (some ⟨gC, 0, none⟩) n n h := by
  exact OwH.hf (cN := cN) (cC := cC) ⟨k.N, k.C⟩
theorem bxh_made {W1 x : World} {b B gN cN gC cC n : Nat} {G T : Int} {l1 : List ByteArray} {l2 : List Int} (hb : x.heap[b]? = some (hvO (.slice none 0 0) (.slice none 0 0) 0 0)) (oN : x.ownsRow B 9 1 (.slice (some ⟨gN, 0, none⟩) n cN) n (mapS l1)) (oC : x.ownsRow B 3 1 (.slice (some ⟨gC, 0, none⟩) n cC) n (ints l2))
    (hN : gN ≠ b) (hC : gC ≠ b) (hB : B ≤ b) (hS : W1.heap.size ≤ x.heap.size) (be : Below B W1 x) :
    BxH W1 ((((x.setCell ⟨b, 0, none⟩ (.slice (some ⟨gN, 0, none⟩) n cN)).setCell ⟨b, 1, none⟩ (.slice (some ⟨gC, 0, none⟩) n cC)).setCell ⟨b, 2, none⟩ (.int .i64 G)).setCell ⟨b, 3, none⟩ (.int .i64 T)) b B gN cN gC cC n G T l1 l2 := by
  have keep : ∀ {g c : Nat} {t : TypeId} {ys : List Value}, x.ownsRow B t 1 (.slice (some ⟨g, 0, none⟩) n c) n ys → g ≠ b → ((((x.setCell ⟨b, 0, none⟩ (.slice (some ⟨gN, 0, none⟩) n cN)).setCell ⟨b, 1, none⟩ (.slice (some ⟨gC, 0, none⟩) n cC)).setCell ⟨b, 2, none⟩ (.int .i64 G)).setCell ⟨b, 3, none⟩ (.int .i64 T)).ownsRow B t 1 (.slice (some ⟨g, 0, none⟩) n c) n ys := fun {g c t ys} ho hg =>
    own_neH (own_neH (own_neH (own_neH ho _ _ (fun q hq => by cases hq; exact hg)) _ _ (fun q hq => by cases hq; exact hg)) _ _ (fun q hq => by cases hq; exact hg)) _ _ (fun q hq => by cases hq; exact hg)
  exact ⟨set4 hb, keep oN hN, keep oC hC, hN, hC, hB, by simp only [World.size_setCell]; exact hS, below4 be b hB _ _ _ _⟩
set_option maxRecDepth 100000 in
set_option maxHeartbeats 8000000 in
theorem addHeavy_any (a : Option Addr) (n c : Nat) (b : Option Addr) (m d : Nat) (G T : Int) (h : Hv) (s : ByteArray) (w : World) (hf : HF w a b n m h) (hg : h.g = G) (ht : h.t = T) (hn2 : n ≤ 1048576) (hm2 : m ≤ 1048576) (htx : ∀ i, i < h.nm.length → (h.nm.getD i e0).size ≤ 1048576) (hsS : s.size ≤ 9223372036854775807) (ok : Bool) (L : Hv) (hr : IsAddR h n m s ok L) :
    Calls Try.prog 12 #[.agg #[.slice a n c, .slice b m d, .int .i64 G, .int .i64 T], .string s] w fun e w' => ∃ v u, e = .returned (.tuple #[hvV v u L.g L.t, .bool ok]) ∧ RH w w' v u L := by
  obtain ⟨Z, hZ⟩ : ∃ x, x = hvO (.slice none 0 0) (.slice none 0 0) 0 0 := ⟨_, rfl⟩
  have q1 := L8.blk_new w (hvO (.slice a n c) (.slice b m d) G T)
  have q2 := L8.blk_new (w.alloc (hvO (.slice a n c) (.slice b m d) G T)) Z
  have k1 := blk_kept q1 ((Below.refl _ _).alloc (Nat.le_refl _) Z)
  have e1 : (w.alloc (hvO (.slice a n c) (.slice b m d) G T)).heap.size = w.heap.size + 1 := by simp
  have ez : ((w.alloc (hvO (.slice a n c) (.slice b m d) G T)).alloc Z).heap.size = w.heap.size + 2 := by simp
  have BX := ((Below.refl w.heap.size w).alloc (Nat.le_refl _) (hvO (.slice a n c) (.slice b m d) G T)).alloc (by simp) Z
  rw [e1] at q2
  obtain ⟨W0, hW0⟩ : ∃ W0, W0 = (w.alloc (hvO (.slice a n c) (.slice b m d) G T)).alloc Z := ⟨_, rfl⟩
  rw [← hW0] at BX q2 k1 ez
  rw [hZ] at q2 hW0
  have HW := hide hW0
  have BQ := hide BX
  have K1 := hide k1
  have K2 := hide q2
  have EZ := hide ez
  have F0 := hide (hf.below BX)
  clear BX hW0 q1 q2 k1 e1 ez hZ hf
  by_cases hgd : GoodHv h n m
  rotate_left
  · obtain ⟨rfl, rfl⟩ := hr.bad (fun q => hgd q.1)
    have CG := hide (goodHeavy_any a n c b m d G T h W0 F0.out hg ht hn2 hm2 htx false ⟨fun q => (by cases q), fun q => absurd q hgd⟩)
    clear hr hg ht
    go_enter Try.func12, Try.ntmps12
    go_upto_region 1 with fail
    rw [← HW.out]
    obtain ⟨k0, k1, k2, k3⟩ := blk4 K1.out
    go_wp2_with fail
    refine CG.out.mono ?_
    rintro e w1 ⟨rfl, hb⟩
    have B1 := hide (BQ.out.trans (hb.mono BQ.out.size))
    have Z1 := hide (blk_kept K2.out hb)
    clear hb k0 k1 k2 k3
    obtain ⟨y0, y1, y2, y3⟩ := blk4 Z1.out
    obtain ⟨f0, f1, f2, f3⟩ := frz4 Z1.out
    have R9 := hide (set4 (a' := (.slice none 0 0)) (b' := (.slice none 0 0)) (c' := .int .i64 0) (d' := .int .i64 0) Z1.out)
    have B9 := hide (below4 B1.out (w.heap.size + 1) (by omega) (.slice none 0 0) (.slice none 0 0) (.int .i64 0) (.int .i64 0))
    go_wp2
    clear y0 y1 y2 y3 f0 f1 f2 f3
    obtain ⟨d0, d1, d2, d3⟩ := blk4 R9.out
    refine bodyPost_ret (v := .tuple #[hvV (.slice none 0 0) (.slice none 0 0) 0 0, .bool false]) (by simp [results, Try.f12, go_sem, d0, d1, d2, d3]) rfl ⟨_, _, rfl, rh_nil B9.out⟩
  have CG := hide (goodHeavy_any a n c b m d G T h W0 F0.out hg ht hn2 hm2 htx true ⟨fun _ => hgd, fun _ => rfl⟩)
  by_cases hwd : L3.Word false s
  rotate_left
  · obtain ⟨rfl, rfl⟩ := hr.bad (fun q => hwd q.2)
    have CW := hide (fun wx => L3.isName_any s wx hsS false ⟨fun q => (by cases q), fun q => absurd q hwd⟩)
    clear hr hg ht hgd
    go_enter Try.func12, Try.ntmps12
    go_upto_region 1 with fail
    rw [← HW.out]
    obtain ⟨k0, k1, k2, k3⟩ := blk4 K1.out
    go_wp2_with fail
    refine CG.out.mono ?_
    rintro e w1 ⟨rfl, hb⟩
    have B1 := hide (BQ.out.trans (hb.mono BQ.out.size))
    have Z1 := hide (blk_kept K2.out hb)
    clear hb k0 k1 k2 k3
    go_wp2_with fail
    refine (CW.out _).mono ?_
    rintro e w2 ⟨rfl, hb⟩
    have Z2 := hide (blk_kept Z1.out hb)
    have B2 := hide (B1.out.trans (hb.mono B1.out.size))
    clear hb
    obtain ⟨y0, y1, y2, y3⟩ := blk4 Z2.out
    obtain ⟨f0, f1, f2, f3⟩ := frz4 Z2.out
    have R9 := hide (set4 (a' := (.slice none 0 0)) (b' := (.slice none 0 0)) (c' := .int .i64 0) (d' := .int .i64 0) Z2.out)
    have B9 := hide (below4 B2.out (w.heap.size + 1) (by omega) (.slice none 0 0) (.slice none 0 0) (.int .i64 0) (.int .i64 0))
    go_wp2
    clear y0 y1 y2 y3 f0 f1 f2 f3
    obtain ⟨d0, d1, d2, d3⟩ := blk4 R9.out
    refine bodyPost_ret (v := .tuple #[hvV (.slice none 0 0) (.slice none 0 0) 0 0, .bool false]) (by simp [results, Try.f12, go_sem, d0, d1, d2, d3]) rfl ⟨_, _, rfl, rh_nil B9.out⟩
  have hmn : m = n := hgd.m
  subst m
  obtain ⟨tk, hk⟩ := tk_ex h.nm n
  obtain ⟨p, hp⟩ := at_ex s tk (hgd.rise hk)
  obtain ⟨h', hh⟩ : ∃ x, x = addH h n tk p s := ⟨_, rfl⟩
  obtain ⟨hok, hL⟩ := hr.good tk p hgd hwd hk hp
  have hln := addH_len (n := n) (m := n) (tk := tk) (p := p) (s := s) F0.out.ln F0.out.lc
  have hsz := addH_sz (n := n) (tk := tk) (p := p) (h := h) (show s.size ≤ 1048576 by have := hwd.1.2; omega) htx
  rw [← hh] at hok hL hln hsz
  have HLN := hide hln
  have h0n : 0 < n := hgd.n1
  have hn6 : n ≤ 6 := hgd.n6
  have hbT : 0 ≤ T ∧ T ≤ 1000000 := by have h1 := hgd.t0; have h2 := hgd.t1; omega
  have hbG : 0 ≤ G ∧ G ≤ 1000000 := by have h1 := hgd.g0; have h2 := hgd.g1; omega
  have hct : ∀ i, i < n → 0 ≤ ca h i ∧ ca h i ≤ 1000000 := fun i hi => by have := (hgd.p i hi).ct; omega
  have htl := hgd.tail hk
  have CW := hide (fun wx => L3.isName_any s wx hsS true ⟨fun _ => hwd, fun _ => rfl⟩)
  obtain ⟨okf, hokf⟩ := dec_exH (p < tk ∧ na h p = s)
  have CF := hide (fun (wx : World) (aN aC : Option Addr) (cN cC : Nat) (q : HF wx aN aC n n h) hc => findPlace_any aN n cN aC n cC G (T + 1) h s tk p okf wx q h0n hn2 hc hk (hgd.rise hk) hp hokf)
  have CT := hide (fun (wx : World) (aN aC : Option Addr) (cN cC : Nat) (q : HF wx aN aC n n h) => takenPlaces_any aN n cN aC n cC G (T + 1) h tk wx q hn2 hk)
  have CB := hide (fun wx aN cN aC cC (q : HF wx aN aC n n h') => goodHeavy_any aN n cN aC n cC h'.g h'.t h' wx q rfl rfl hn2 hn2 hsz ok hok)
  have HL := hide hL
  have HH := hide hh
  have HK := hide hk
  have HP := hide hp
  have HOKF := hide hokf
  have HCT := hide hct
  have HTL := hide htl
  have HGT := hide (And.intro hg ht)
  clear hr hg ht hgd hwd hk hp hh hok hL hln hsz htx hokf hct htl
  go_enter Try.func12, Try.ntmps12
  go_upto_region 1 with fail
  rw [← HW.out]
  obtain ⟨k0, k1, k2, k3⟩ := blk4 K1.out
  go_wp2_with fail
  refine CG.out.mono ?_
  rintro e w1 ⟨rfl, hb⟩
  have B1 := hide hb
  clear hb k0 k1 k2 k3
  go_wp2_with fail
  refine (CW.out _).mono ?_
  rintro e W1 ⟨rfl, hb⟩
  have BW1 := hide (B1.out.trans (hb.mono B1.out.size))
  have BQ1 := hide (BQ.out.trans (BW1.out.mono BQ.out.size))
  have K1W := hide (blk_kept K1.out BW1.out)
  have K2W := hide (blk_kept K2.out BW1.out)
  have F1 := hide (F0.out.below BW1.out)
  have SE := hide (show w.heap.size + 2 ≤ W1.heap.size by have h1 := EZ.out; have h2 := BW1.out.size; omega)
  have CSN := hide (fun wx (hb : Below W1.heap.size W1 wx) => cloneS_any a h.nm n c wx F1.out.ln h0n hn2 (F1.out.below hb).sN)
  have CSC := hide (fun wx (hb : Below W1.heap.size W1 wx) => cloneI_any b h.ct n d wx F1.out.lc h0n hn2 (F1.out.below hb).sC)
  obtain ⟨k0, k1, k2, k3⟩ := blk4 K1W.out
  have hwT : IntKind.i64.wrap (T + 1) = T + 1 := by
    simp only [IntKind.wrap, IntKind.bits, IntKind.signed]
    simp
    omega
  clear hb
  go_upto_region 3 with fail
  refine wp_putK (fun v wS => ∃ zb gN cN gC cC, v = .pointer (some ⟨zb, 0, none⟩) ∧ BxH W1 wS zb W1.heap.size gN cN gC cC n G (T + 1) h.nm h.ct) ?_ ?_
  · refine wp_region_held_drew (S := (fun wx => (wx.cell? ⟨w.heap.size, 0, none⟩ = some (.slice a n c) ∧ wx.cell? ⟨w.heap.size, 1, none⟩ = some (.slice b n d) ∧ wx.cell? ⟨w.heap.size, 2, none⟩ = some (.int .i64 G) ∧ wx.cell? ⟨w.heap.size, 3, none⟩ = some (.int .i64 T)) ∧ Below W1.heap.size W1 wx)) (by kernel_rfl) ⟨⟨k0, k1, k2, k3⟩, (Below.refl _ _).drew⟩ (fun hHeld => ?_)
    clear k0 k1 k2 k3
    have E0 := hide (show Below W1.heap.size W1 W1.drew from (Below.refl _ _).drew)
    refine wpAnyH_take (i := 0) (v := ?v1) rfl (by kernel_rfl) (by kernel_rfl) (by kernel_rfl) (fun _ _ _ h => by cases h.1) (Or.inl ⟨by rfl, ?y1⟩) (by assumption) ?r1
    case y1 => (intro w hSw; (try dsimp only at hSw); go_simp; try (with_reducible rfl))
    simp only [List.getElem_toArray, List.getElem_cons_zero, Act.put, List.setIfInBounds_toArray, List.set_cons_zero, List.set_cons_succ]
    refine wpAnyH_take (i := 1) (v := ?v2) rfl (by kernel_rfl) (by kernel_rfl) (by kernel_rfl) (fun _ _ _ h => by cases h.1) (Or.inl ⟨by rfl, ?y2⟩) (by assumption) ?r2
    case y2 => (intro w hSw; (try dsimp only at hSw); go_simp; try (with_reducible rfl))
    simp only [List.getElem_toArray, List.getElem_cons_succ, List.getElem_cons_zero, Act.put, List.setIfInBounds_toArray, List.set_cons_zero, List.set_cons_succ]
    refine wpAnyH_take (i := 3) (v := ?v3) rfl (by kernel_rfl) (by kernel_rfl) (by kernel_rfl) (fun _ _ _ h => by cases h.1) (Or.inl ⟨by rfl, ?y3⟩) (by assumption) ?r3
    case y3 => (intro w hSw; (try dsimp only at hSw); go_simp; try (with_reducible rfl))
    simp only [List.getElem_toArray, List.getElem_cons_succ, List.getElem_cons_zero, Act.put, List.setIfInBounds_toArray, List.set_cons_zero, List.set_cons_succ]
    refine wpAnyH_take (i := 4) (v := ?v4) rfl (by kernel_rfl) (by kernel_rfl) (by kernel_rfl) (fun _ _ _ h => by cases h.1) (Or.inl ⟨by rfl, ?y4⟩) (by assumption) ?r4
    case y4 => (intro w hSw; (try dsimp only at hSw); go_simp; try (with_reducible rfl))
    simp only [List.getElem_toArray, List.getElem_cons_succ, List.getElem_cons_zero, Act.put, List.setIfInBounds_toArray, List.set_cons_zero, List.set_cons_succ]
    refine wpAnyH_take (i := 6) (v := ?v5) rfl (by kernel_rfl) (by kernel_rfl) (by kernel_rfl) (fun _ _ _ h => by cases h.1) (Or.inl ⟨by rfl, ?y5⟩) (by assumption) ?r5
    case y5 => (intro w hSw; (try dsimp only at hSw); go_simp; try (with_reducible rfl))
    simp only [List.getElem_toArray, List.getElem_cons_succ, List.getElem_cons_zero, Act.put, List.setIfInBounds_toArray, List.set_cons_zero, List.set_cons_succ]
    refine wpAnyH_take (i := 7) (v := ?v6) rfl (by kernel_rfl) (by kernel_rfl) (by kernel_rfl) (fun _ _ _ h => by cases h.1) (Or.inl ⟨by rfl, ?y6⟩) (by assumption) ?r6
    case y6 => (intro w hSw; (try dsimp only at hSw); go_simp; try (with_reducible rfl))
    simp only [List.getElem_toArray, List.getElem_cons_succ, List.getElem_cons_zero, Act.put, List.setIfInBounds_toArray, List.set_cons_zero, List.set_cons_succ]
    refine wpAnyH_take (i := 8) (v := ?v7) rfl (by kernel_rfl) (by kernel_rfl) (by kernel_rfl) (fun _ _ _ h => by cases h.1) (Or.inl ⟨by rfl, ?y7⟩) (by assumption) ?r7
    case y7 => (intro w hSw; (try dsimp only at hSw); go_simp; try (with_reducible rfl))
    simp only [List.getElem_toArray, List.getElem_cons_succ, List.getElem_cons_zero, Act.put, List.setIfInBounds_toArray, List.set_cons_zero, List.set_cons_succ]
    refine wpAnyH_take (i := 9) (v := ?v8) rfl (by kernel_rfl) (by kernel_rfl) (by kernel_rfl) (fun _ _ _ h => by cases h.1) (Or.inl ⟨by rfl, ?y8⟩) (by assumption) ?r8
    case y8 => (intro w hSw; (try dsimp only at hSw); go_simp; try (with_reducible rfl))
    simp only [List.getElem_toArray, List.getElem_cons_succ, List.getElem_cons_zero, Act.put, List.setIfInBounds_toArray, List.set_cons_zero, List.set_cons_succ]
    refine wpAnyH_take (i := 10) (v := ?v9) rfl (by kernel_rfl) (by kernel_rfl) (by kernel_rfl) (fun _ _ _ h => by cases h.1) (Or.inl ⟨by rfl, ?y9⟩) (by assumption) ?r9
    case y9 => (intro w hSw; (try dsimp only at hSw); go_simp; try (with_reducible rfl))
    simp only [List.getElem_toArray, List.getElem_cons_succ, List.getElem_cons_zero, Act.put, List.setIfInBounds_toArray, List.set_cons_zero, List.set_cons_succ]
    refine wpAnyH_ready (rs := [2, 12]) (by kernel_rfl) (by simp) ?_
    refine AllReadyH.cons rfl (fun K hK => ?_) (AllReadyH.cons rfl (fun K hK => ?_) AllReadyH.nil)
    · simp only [List.getElem_toArray, List.getElem_cons_succ, List.getElem_cons_zero]
      go_simp
      go_at_call 41
      refine (CSN.out _ E0.out).mono ?_
      rintro e w_1 ⟨a_2, c_3, rfl, ho, hb⟩
      obtain ⟨g_4, rfl⟩ := own_someK ho h0n
      have ON_5 := hide (own_baseS ho E0.out.size)
      have Q_7 := hide (L8.own_lt ho g_4 rfl)
      have E_6 := hide (E0.out.trans (hb.mono E0.out.size))
      dsimp only
      refine hK.out _ _ ?_ (fun hHeld => ?_)
      · exact L8.keep4 hHeld hb (Nat.le_refl _)
      clear hK K hb ho
      try simp only [Act.put, List.setIfInBounds_toArray, List.set_cons_zero, List.set_cons_succ]
      refine wpAnyH_ready (rs := [5, 12]) (by kernel_rfl) (by simp) ?_
      refine AllReadyH.cons rfl (fun K hK => ?_) (AllReadyH.cons rfl (fun K hK => ?_) AllReadyH.nil)
      · simp only [List.getElem_toArray, List.getElem_cons_succ, List.getElem_cons_zero]
        go_simp
        go_at_call 42
        refine (CSC.out _ E_6.out).mono ?_
        rintro e w_8 ⟨a_9, c_10, rfl, ho, hb⟩
        obtain ⟨g_11, rfl⟩ := own_someK ho h0n
        have OC_12 := hide (own_baseS ho E_6.out.size)
        have Q_14 := hide (L8.own_lt ho g_11 rfl)
        have E_13 := hide (E_6.out.trans (hb.mono E_6.out.size))
        have ON_15 := hide (own_belO ON_5.out hb)
        dsimp only
        refine hK.out _ _ ?_ (fun hHeld => ?_)
        · exact L8.keep4 hHeld hb (Nat.le_refl _)
        clear hK K hb ho
        try simp only [Act.put, List.setIfInBounds_toArray, List.set_cons_zero, List.set_cons_succ]
        refine wpAnyH_take (i := 11) (v := ?v10) rfl (by kernel_rfl) (by kernel_rfl) (by kernel_rfl) (fun _ _ _ h => by cases h.1) (Or.inl ⟨by rfl, ?y10⟩) (by assumption) ?r10
        case y10 => (intro w hSw; (try dsimp only at hSw); go_simp; try (with_reducible rfl))
        simp only [List.getElem_toArray, List.getElem_cons_succ, List.getElem_cons_zero, Act.put, List.setIfInBounds_toArray, List.set_cons_zero, List.set_cons_succ]
        refine wpAnyH_ready (rs := [12]) (by kernel_rfl) (by simp) ?_
        refine AllReadyH.cons rfl (fun K hK => ?_) AllReadyH.nil
        simp only [List.getElem_toArray, List.getElem_cons_succ, List.getElem_cons_zero]
        obtain ⟨w_16, hw6⟩ : ∃ W, (w_8.alloc (hvO (.slice none 0 0) (.slice none 0 0) 0 0)) = W := ⟨_, rfl⟩
        obtain ⟨b_19, hb6⟩ : ∃ q, q = w_8.heap.size := ⟨_, rfl⟩
        have HB_20 := hide hb6
        have e6 : Below w_8.heap.size w_8 w_16 := by rw [← hw6]; exact (show Below w_8.heap.size w_8 (w_8.alloc (hvO (.slice none 0 0) (.slice none 0 0) 0 0)) from (Below.refl w_8.heap.size w_8).alloc (Nat.le_refl _) _)
        have BX_18 := hide (show w_16.heap[b_19]? = some (hvO (.slice none 0 0) (.slice none 0 0) 0 0) by rw [← hw6, hb6]; exact L8.blk_new w_8 _)
        have E_17 := hide (E_13.out.trans (e6.mono E_13.out.size))
        have ON_21 := hide (own_belO ON_15.out e6)
        have NE_22 := hide (show g_4 ≠ b_19 by have h2 := (L8.own_lt ON_15.out g_4 rfl).2; rw [hb6]; omega)
        have OC_23 := hide (own_belO OC_12.out e6)
        have NE_24 := hide (show g_11 ≠ b_19 by have h2 := (L8.own_lt OC_12.out g_11 rfl).2; rw [hb6]; omega)
        have LB_25 := hide (show W1.heap.size ≤ b_19 by rw [hb6]; exact E_13.out.size)
        go_simp
        try rw [hw6]
        try rw [← hb6]
        refine hK.out _ _ ?_ (fun hHeld => ?_)
        · exact L8.keep4 hHeld e6 (Nat.le_refl _)
        clear hK K hw6 e6 hb6
        try simp only [Act.put, List.setIfInBounds_toArray, List.set_cons_zero, List.set_cons_succ]
        refine wpAnyH_ready (rs := [13]) (by kernel_rfl) (by simp) ?_
        refine AllReadyH.cons rfl (fun K hK => ?_) AllReadyH.nil
        simp only [List.getElem_toArray, List.getElem_cons_succ, List.getElem_cons_zero]
        obtain ⟨z0, z1, z2, z3⟩ := blk4 BX_18.out
        obtain ⟨f0, f1, f2, f3⟩ := frz4 BX_18.out
        go_simp
        obtain ⟨wS_26, hS⟩ : ∃ x, ((((w_16.setCell ⟨b_19, 0, none⟩ (.slice (some ⟨g_4, 0, none⟩) n c_3)).setCell ⟨b_19, 1, none⟩ (.slice (some ⟨g_11, 0, none⟩) n c_10)).setCell ⟨b_19, 2, none⟩ (.int .i64 G)).setCell ⟨b_19, 3, none⟩ (.int .i64 (T + 1))) = x := ⟨_, rfl⟩
        have KB_27 := hide (show BxH W1 wS_26 b_19 W1.heap.size g_4 c_3 g_11 c_10 n G (T + 1) h.nm h.ct by rw [← hS]; exact bxh_made BX_18.out ON_21.out OC_23.out NE_22.out NE_24.out LB_25.out E_17.out.size E_17.out)
        rw [hS]
        refine hK.out _ _ ?_ (fun hHeld => ?_)
        · obtain ⟨h1, h2, h3, h4⟩ := blk4 (blk_kept K1W.out KB_27.out.B)
          exact ⟨⟨h1, h2, h3, h4⟩, KB_27.out.B⟩
        clear hK K z0 z1 z2 z3 f0 f1 f2 f3 hS
        try simp only [Act.put, List.setIfInBounds_toArray, List.set_cons_zero, List.set_cons_succ]
        refine wpAnyH_done (by kernel_rfl) ?_ _
        clear hHeld
        simp only [putK, Act.put, List.setIfInBounds_toArray, List.set_cons_zero, List.set_cons_succ]
        exact ⟨trivial, _, _, _, _, _, _, _, _, _, _, _, _, _, rfl, b_19, g_4, c_3, g_11, c_10, rfl, KB_27.out⟩
      · simp only [List.getElem_toArray, List.getElem_cons_succ, List.getElem_cons_zero]
        obtain ⟨w_28, hw6⟩ : ∃ W, (w_1.alloc (hvO (.slice none 0 0) (.slice none 0 0) 0 0)) = W := ⟨_, rfl⟩
        obtain ⟨b_31, hb6⟩ : ∃ q, q = w_1.heap.size := ⟨_, rfl⟩
        have HB_32 := hide hb6
        have e6 : Below w_1.heap.size w_1 w_28 := by rw [← hw6]; exact (show Below w_1.heap.size w_1 (w_1.alloc (hvO (.slice none 0 0) (.slice none 0 0) 0 0)) from (Below.refl w_1.heap.size w_1).alloc (Nat.le_refl _) _)
        have BX_30 := hide (show w_28.heap[b_31]? = some (hvO (.slice none 0 0) (.slice none 0 0) 0 0) by rw [← hw6, hb6]; exact L8.blk_new w_1 _)
        have E_29 := hide (E_6.out.trans (e6.mono E_6.out.size))
        have ON_33 := hide (own_belO ON_5.out e6)
        have NE_34 := hide (show g_4 ≠ b_31 by have h2 := (L8.own_lt ON_5.out g_4 rfl).2; rw [hb6]; omega)
        have LB_35 := hide (show W1.heap.size ≤ b_31 by rw [hb6]; exact E_6.out.size)
        go_simp
        try rw [hw6]
        try rw [← hb6]
        refine hK.out _ _ ?_ (fun hHeld => ?_)
        · exact L8.keep4 hHeld e6 (Nat.le_refl _)
        clear hK K hw6 e6 hb6
        try simp only [Act.put, List.setIfInBounds_toArray, List.set_cons_zero, List.set_cons_succ]
        refine wpAnyH_ready (rs := [5]) (by kernel_rfl) (by simp) ?_
        refine AllReadyH.cons rfl (fun K hK => ?_) AllReadyH.nil
        simp only [List.getElem_toArray, List.getElem_cons_succ, List.getElem_cons_zero]
        go_simp
        go_at_call 42
        refine (CSC.out _ E_29.out).mono ?_
        rintro e w_36 ⟨a_37, c_38, rfl, ho, hb⟩
        obtain ⟨g_39, rfl⟩ := own_someK ho h0n
        have OC_40 := hide (own_baseS ho E_29.out.size)
        have Q_42 := hide (L8.own_lt ho g_39 rfl)
        have E_41 := hide (E_29.out.trans (hb.mono E_29.out.size))
        have ON_43 := hide (own_belO ON_33.out hb)
        have BX_44 := hide (blk_kept BX_30.out hb)
        have NE_45 := hide (show g_39 ≠ b_31 by have h1 := (Array.getElem?_eq_some_iff.1 BX_30.out).1; have h2 := Q_42.out.1; omega)
        dsimp only
        refine hK.out _ _ ?_ (fun hHeld => ?_)
        · exact L8.keep4 hHeld hb (Nat.le_refl _)
        clear hK K hb ho
        try simp only [Act.put, List.setIfInBounds_toArray, List.set_cons_zero, List.set_cons_succ]
        refine wpAnyH_take (i := 11) (v := ?v11) rfl (by kernel_rfl) (by kernel_rfl) (by kernel_rfl) (fun _ _ _ h => by cases h.1) (Or.inl ⟨by rfl, ?y11⟩) (by assumption) ?r11
        case y11 => (intro w hSw; (try dsimp only at hSw); go_simp; try (with_reducible rfl))
        simp only [List.getElem_toArray, List.getElem_cons_succ, List.getElem_cons_zero, Act.put, List.setIfInBounds_toArray, List.set_cons_zero, List.set_cons_succ]
        refine wpAnyH_ready (rs := [13]) (by kernel_rfl) (by simp) ?_
        refine AllReadyH.cons rfl (fun K hK => ?_) AllReadyH.nil
        simp only [List.getElem_toArray, List.getElem_cons_succ, List.getElem_cons_zero]
        obtain ⟨z0, z1, z2, z3⟩ := blk4 BX_44.out
        obtain ⟨f0, f1, f2, f3⟩ := frz4 BX_44.out
        go_simp
        obtain ⟨wS_46, hS⟩ : ∃ x, ((((w_36.setCell ⟨b_31, 0, none⟩ (.slice (some ⟨g_4, 0, none⟩) n c_3)).setCell ⟨b_31, 1, none⟩ (.slice (some ⟨g_39, 0, none⟩) n c_38)).setCell ⟨b_31, 2, none⟩ (.int .i64 G)).setCell ⟨b_31, 3, none⟩ (.int .i64 (T + 1))) = x := ⟨_, rfl⟩
        have KB_47 := hide (show BxH W1 wS_46 b_31 W1.heap.size g_4 c_3 g_39 c_38 n G (T + 1) h.nm h.ct by rw [← hS]; exact bxh_made BX_44.out ON_43.out OC_40.out NE_34.out NE_45.out LB_35.out E_41.out.size E_41.out)
        rw [hS]
        refine hK.out _ _ ?_ (fun hHeld => ?_)
        · obtain ⟨h1, h2, h3, h4⟩ := blk4 (blk_kept K1W.out KB_47.out.B)
          exact ⟨⟨h1, h2, h3, h4⟩, KB_47.out.B⟩
        clear hK K z0 z1 z2 z3 f0 f1 f2 f3 hS
        try simp only [Act.put, List.setIfInBounds_toArray, List.set_cons_zero, List.set_cons_succ]
        refine wpAnyH_done (by kernel_rfl) ?_ _
        clear hHeld
        simp only [putK, Act.put, List.setIfInBounds_toArray, List.set_cons_zero, List.set_cons_succ]
        exact ⟨trivial, _, _, _, _, _, _, _, _, _, _, _, _, _, rfl, b_31, g_4, c_3, g_39, c_38, rfl, KB_47.out⟩
    · simp only [List.getElem_toArray, List.getElem_cons_succ, List.getElem_cons_zero]
      obtain ⟨w_48, hw6⟩ : ∃ W, (W1.alloc (hvO (.slice none 0 0) (.slice none 0 0) 0 0)).drew = W := ⟨_, rfl⟩
      obtain ⟨b_51, hb6⟩ : ∃ q, q = W1.heap.size := ⟨_, rfl⟩
      have HB_52 := hide hb6
      have e6 : Below W1.drew.heap.size W1.drew w_48 := by rw [← hw6]; exact (show Below W1.drew.heap.size W1.drew (W1.drew.alloc (hvO (.slice none 0 0) (.slice none 0 0) 0 0)) from (Below.refl W1.drew.heap.size W1.drew).alloc (Nat.le_refl _) _)
      have BX_50 := hide (show w_48.heap[b_51]? = some (hvO (.slice none 0 0) (.slice none 0 0) 0 0) by rw [← hw6, hb6]; exact L8.blk_new W1 _)
      have E_49 := hide (E0.out.trans (e6.mono E0.out.size))
      have LB_53 := hide (show W1.heap.size ≤ b_51 by rw [hb6]; exact E0.out.size)
      go_simp
      try rw [hw6]
      try rw [← hb6]
      refine hK.out _ _ ?_ (fun hHeld => ?_)
      · exact L8.keep4 hHeld e6 (Nat.le_refl _)
      clear hK K hw6 e6 hb6
      try simp only [Act.put, List.setIfInBounds_toArray, List.set_cons_zero, List.set_cons_succ]
      refine wpAnyH_ready (rs := [2]) (by kernel_rfl) (by simp) ?_
      refine AllReadyH.cons rfl (fun K hK => ?_) AllReadyH.nil
      simp only [List.getElem_toArray, List.getElem_cons_succ, List.getElem_cons_zero]
      go_simp
      go_at_call 41
      refine (CSN.out _ E_49.out).mono ?_
      rintro e w_54 ⟨a_55, c_56, rfl, ho, hb⟩
      obtain ⟨g_57, rfl⟩ := own_someK ho h0n
      have ON_58 := hide (own_baseS ho E_49.out.size)
      have Q_60 := hide (L8.own_lt ho g_57 rfl)
      have E_59 := hide (E_49.out.trans (hb.mono E_49.out.size))
      have BX_61 := hide (blk_kept BX_50.out hb)
      have NE_62 := hide (show g_57 ≠ b_51 by have h1 := (Array.getElem?_eq_some_iff.1 BX_50.out).1; have h2 := Q_60.out.1; omega)
      dsimp only
      refine hK.out _ _ ?_ (fun hHeld => ?_)
      · exact L8.keep4 hHeld hb (Nat.le_refl _)
      clear hK K hb ho
      try simp only [Act.put, List.setIfInBounds_toArray, List.set_cons_zero, List.set_cons_succ]
      refine wpAnyH_ready (rs := [5]) (by kernel_rfl) (by simp) ?_
      refine AllReadyH.cons rfl (fun K hK => ?_) AllReadyH.nil
      simp only [List.getElem_toArray, List.getElem_cons_succ, List.getElem_cons_zero]
      go_simp
      go_at_call 42
      refine (CSC.out _ E_59.out).mono ?_
      rintro e w_63 ⟨a_64, c_65, rfl, ho, hb⟩
      obtain ⟨g_66, rfl⟩ := own_someK ho h0n
      have OC_67 := hide (own_baseS ho E_59.out.size)
      have Q_69 := hide (L8.own_lt ho g_66 rfl)
      have E_68 := hide (E_59.out.trans (hb.mono E_59.out.size))
      have ON_70 := hide (own_belO ON_58.out hb)
      have BX_71 := hide (blk_kept BX_61.out hb)
      have NE_72 := hide (show g_66 ≠ b_51 by have h1 := (Array.getElem?_eq_some_iff.1 BX_61.out).1; have h2 := Q_69.out.1; omega)
      dsimp only
      refine hK.out _ _ ?_ (fun hHeld => ?_)
      · exact L8.keep4 hHeld hb (Nat.le_refl _)
      clear hK K hb ho
      try simp only [Act.put, List.setIfInBounds_toArray, List.set_cons_zero, List.set_cons_succ]
      refine wpAnyH_take (i := 11) (v := ?v12) rfl (by kernel_rfl) (by kernel_rfl) (by kernel_rfl) (fun _ _ _ h => by cases h.1) (Or.inl ⟨by rfl, ?y12⟩) (by assumption) ?r12
      case y12 => (intro w hSw; (try dsimp only at hSw); go_simp; try (with_reducible rfl))
      simp only [List.getElem_toArray, List.getElem_cons_succ, List.getElem_cons_zero, Act.put, List.setIfInBounds_toArray, List.set_cons_zero, List.set_cons_succ]
      refine wpAnyH_ready (rs := [13]) (by kernel_rfl) (by simp) ?_
      refine AllReadyH.cons rfl (fun K hK => ?_) AllReadyH.nil
      simp only [List.getElem_toArray, List.getElem_cons_succ, List.getElem_cons_zero]
      obtain ⟨z0, z1, z2, z3⟩ := blk4 BX_71.out
      obtain ⟨f0, f1, f2, f3⟩ := frz4 BX_71.out
      go_simp
      obtain ⟨wS_73, hS⟩ : ∃ x, ((((w_63.setCell ⟨b_51, 0, none⟩ (.slice (some ⟨g_57, 0, none⟩) n c_56)).setCell ⟨b_51, 1, none⟩ (.slice (some ⟨g_66, 0, none⟩) n c_65)).setCell ⟨b_51, 2, none⟩ (.int .i64 G)).setCell ⟨b_51, 3, none⟩ (.int .i64 (T + 1))) = x := ⟨_, rfl⟩
      have KB_74 := hide (show BxH W1 wS_73 b_51 W1.heap.size g_57 c_56 g_66 c_65 n G (T + 1) h.nm h.ct by rw [← hS]; exact bxh_made BX_71.out ON_70.out OC_67.out NE_62.out NE_72.out LB_53.out E_68.out.size E_68.out)
      rw [hS]
      refine hK.out _ _ ?_ (fun hHeld => ?_)
      · obtain ⟨h1, h2, h3, h4⟩ := blk4 (blk_kept K1W.out KB_74.out.B)
        exact ⟨⟨h1, h2, h3, h4⟩, KB_74.out.B⟩
      clear hK K z0 z1 z2 z3 f0 f1 f2 f3 hS
      try simp only [Act.put, List.setIfInBounds_toArray, List.set_cons_zero, List.set_cons_succ]
      refine wpAnyH_done (by kernel_rfl) ?_ _
      clear hHeld
      simp only [putK, Act.put, List.setIfInBounds_toArray, List.set_cons_zero, List.set_cons_succ]
      exact ⟨trivial, _, _, _, _, _, _, _, _, _, _, _, _, _, rfl, b_51, g_57, c_56, g_66, c_65, rfl, KB_74.out⟩
  intro v0 v1 v2 v3 v4 v5 v6 v7 v8 v9 v10 v11 v12 wS hR
  obtain ⟨zb, gN, cN, gC, cC, rfl, kx⟩ := hR
  clear k0 k1 k2 k3
  simp only [putK, Act.put, List.setIfInBounds_toArray, List.set_cons_zero, List.set_cons_succ]
  have KS := hide kx
  clear kx
  obtain ⟨kx0, kx1, kx2, kx3⟩ := blk4 KS.out.X
  go_wp2_with fail
  refine (CF.out _ _ _ _ _ KS.out.hf KS.out.capN).mono ?_
  rintro e w3 ⟨rfl, hb⟩
  have K3 := hide (KS.out.below hb KS.out.S)
  clear hb kx0 kx1 kx2 kx3
  obtain ⟨kx0, kx1, kx2, kx3⟩ := blk4 K3.out.X
  go_wp2_with fail
  refine (CT.out _ _ _ _ _ K3.out.hf).mono ?_
  rintro e w4 ⟨rfl, hb⟩
  have K4 := hide (K3.out.below hb K3.out.S)
  clear hb kx0 kx1 kx2 kx3
  have hpt := HP.out.le
  have htn := HK.out.le
  obtain ⟨kx0, kx1, kx2, kx3⟩ := blk4 K4.out.X
  cases hq : okf with
  | true =>
    obtain ⟨hp1, hp2⟩ := HOKF.out.1 hq
    have HE := hide (show h' = incH (upH h) p by rw [HH.out]; unfold addH; rw [if_pos ⟨hp1, hp2⟩])
    subst hq
    obtain ⟨cc, fc⟩ := K4.out.atC p (by omega)
    have hcb := HCT.out p (by omega)
    obtain ⟨y, hy⟩ : ∃ y, y = h.ct.getD p 0 := ⟨_, rfl⟩
    have hcb2 : 0 ≤ y ∧ y ≤ 1000000 := by rw [hy]; exact hcb
    rw [← hy] at cc
    have hpn : (p : Int) < (n : Int) := by omega
    have hpN : p < n := by omega
    have hwy : IntKind.i64.wrap (y + 1) = y + 1 := by
      simp only [IntKind.wrap, IntKind.bits, IntKind.signed]
      simp
      omega
    have KX := hide (show BxH W1 (w4.setCell ⟨gC, p, none⟩ (.int .i64 (y + 1))) zb W1.heap.size gN cN gC cC n h'.g h'.t h'.nm h'.ct by
      have k := K4.out.setC p (y + 1)
      rw [HE.out, show (incH (upH h) p).ct = h.ct.set p (y + 1) by rw [hy]; rfl, show (incH (upH h) p).nm = h.nm from rfl, show (incH (upH h) p).g = G from HGT.out.1, show (incH (upH h) p).t = T + 1 by rw [← HGT.out.2]; rfl]
      exact k)
    clear hcb hy
    go_upto_region 11 with fail
    clear cc fc kx0 kx1 kx2 kx3
    obtain ⟨kx0, kx1, kx2, kx3⟩ := blk4 KX.out.X
    go_wp2_with fail
    refine (CB.out _ _ _ _ _ KX.out.hf).mono ?_
    rintro e w9 ⟨rfl, hb⟩
    have KY := hide (KX.out.below hb (Nat.le_trans (Nat.le_refl _) KX.out.S))
    have B9 := hide (BQ1.out.trans (KY.out.B.mono BQ1.out.size))
    have Z9 := hide (blk_kept K2W.out KY.out.B)
    clear hb kx0 kx1 kx2 kx3
    cases ok with
    | false =>
      obtain rfl : L = e0H := HL.out
      obtain ⟨y0, y1, y2, y3⟩ := blk4 Z9.out
      obtain ⟨f0, f1, f2, f3⟩ := frz4 Z9.out
      have R9 := hide (set4 (a' := (.slice none 0 0)) (b' := (.slice none 0 0)) (c' := .int .i64 0) (d' := .int .i64 0) Z9.out)
      have B10 := hide (below4 B9.out (w.heap.size + 1) (by omega) (.slice none 0 0) (.slice none 0 0) (.int .i64 0) (.int .i64 0))
      go_wp2
      clear y0 y1 y2 y3 f0 f1 f2 f3
      obtain ⟨d0, d1, d2, d3⟩ := blk4 R9.out
      refine bodyPost_ret (v := .tuple #[hvV (.slice none 0 0) (.slice none 0 0) 0 0, .bool false]) (by simp [results, Try.f12, go_sem, d0, d1, d2, d3]) rfl ⟨_, _, rfl, rh_nil B10.out⟩
    | true =>
      obtain rfl : L = h' := HL.out
      obtain ⟨y0, y1, y2, y3⟩ := blk4 Z9.out
      obtain ⟨f0, f1, f2, f3⟩ := frz4 Z9.out
      obtain ⟨k0, k1, k2, k3⟩ := blk4 KY.out.X
      have R9 := hide (set4 (a' := (.slice (some ⟨gN, 0, none⟩) n cN)) (b' := (.slice (some ⟨gC, 0, none⟩) n cC)) (c' := .int .i64 L.g) (d' := .int .i64 L.t) Z9.out)
      have B10 := hide (below4 B9.out (w.heap.size + 1) (by omega) (.slice (some ⟨gN, 0, none⟩) n cN) (.slice (some ⟨gC, 0, none⟩) n cC) (.int .i64 L.g) (.int .i64 L.t))
      have O9 := hide ((show OwH w9 W1.heap.size (.slice (some ⟨gN, 0, none⟩) n cN) (.slice (some ⟨gC, 0, none⟩) n cC) n n L from ⟨KY.out.N, KY.out.C⟩).setC4 (w.heap.size + 1) (by have := SE.out; omega) (.slice (some ⟨gN, 0, none⟩) n cN) (.slice (some ⟨gC, 0, none⟩) n cC) (.int .i64 L.g) (.int .i64 L.t))
      go_wp2
      clear y0 y1 y2 y3 f0 f1 f2 f3 k0 k1 k2 k3
      obtain ⟨d0, d1, d2, d3⟩ := blk4 R9.out
      refine bodyPost_ret (v := .tuple #[hvV (.slice (some ⟨gN, 0, none⟩) n cN) (.slice (some ⟨gC, 0, none⟩) n cC) L.g L.t, .bool true]) (by simp [results, Try.f12, go_sem, d0, d1, d2, d3]) rfl ⟨_, _, rfl, ?_, B10.out⟩
      rw [HLN.out.1, HLN.out.2]
      exact O9.out.toBase (by have := SE.out; omega)
  | false =>
    have hpx : ¬ (p < tk ∧ na h p = s) := fun q => by have := HOKF.out.2 q; rw [hq] at this; cases this
    subst hq
    by_cases htk : tk < n
    · have htI : (tk : Int) < (n : Int) := by omega
      have HE := hide (show h' = putH (upH h) p s by rw [HH.out]; unfold addH; rw [if_neg hpx, if_pos htk])
      go_wp2_with fail
      refine (takePlace_any zb W1.heap.size gN cN gC cC n G (T + 1) h.nm h.ct W1 w4 p tk s K4.out (by omega) hpt htk (fun j h1 h2 => (HTL.out j h1 h2).1) (fun j h1 h2 => (HTL.out j h1 h2).2)).mono ?_
      rintro e w5 ⟨rfl, k⟩
      have KX := hide (show BxH W1 w5 zb W1.heap.size gN cN gC cC n h'.g h'.t h'.nm h'.ct by
        rw [HE.out, show (putH (upH h) p s).g = G from HGT.out.1, show (putH (upH h) p s).t = T + 1 by rw [← HGT.out.2]; rfl]
        exact k)
      clear k kx0 kx1 kx2 kx3
      obtain ⟨kx0, kx1, kx2, kx3⟩ := blk4 KX.out.X
      go_wp2_with fail
      refine (CB.out _ _ _ _ _ KX.out.hf).mono ?_
      rintro e w9 ⟨rfl, hb⟩
      have KY := hide (KX.out.below hb (Nat.le_trans (Nat.le_refl _) KX.out.S))
      have B9 := hide (BQ1.out.trans (KY.out.B.mono BQ1.out.size))
      have Z9 := hide (blk_kept K2W.out KY.out.B)
      clear hb kx0 kx1 kx2 kx3
      cases ok with
      | false =>
        obtain rfl : L = e0H := HL.out
        obtain ⟨y0, y1, y2, y3⟩ := blk4 Z9.out
        obtain ⟨f0, f1, f2, f3⟩ := frz4 Z9.out
        have R9 := hide (set4 (a' := (.slice none 0 0)) (b' := (.slice none 0 0)) (c' := .int .i64 0) (d' := .int .i64 0) Z9.out)
        have B10 := hide (below4 B9.out (w.heap.size + 1) (by omega) (.slice none 0 0) (.slice none 0 0) (.int .i64 0) (.int .i64 0))
        go_wp2
        clear y0 y1 y2 y3 f0 f1 f2 f3
        obtain ⟨d0, d1, d2, d3⟩ := blk4 R9.out
        refine bodyPost_ret (v := .tuple #[hvV (.slice none 0 0) (.slice none 0 0) 0 0, .bool false]) (by simp [results, Try.f12, go_sem, d0, d1, d2, d3]) rfl ⟨_, _, rfl, rh_nil B10.out⟩
      | true =>
        obtain rfl : L = h' := HL.out
        obtain ⟨y0, y1, y2, y3⟩ := blk4 Z9.out
        obtain ⟨f0, f1, f2, f3⟩ := frz4 Z9.out
        obtain ⟨k0, k1, k2, k3⟩ := blk4 KY.out.X
        have R9 := hide (set4 (a' := (.slice (some ⟨gN, 0, none⟩) n cN)) (b' := (.slice (some ⟨gC, 0, none⟩) n cC)) (c' := .int .i64 L.g) (d' := .int .i64 L.t) Z9.out)
        have B10 := hide (below4 B9.out (w.heap.size + 1) (by omega) (.slice (some ⟨gN, 0, none⟩) n cN) (.slice (some ⟨gC, 0, none⟩) n cC) (.int .i64 L.g) (.int .i64 L.t))
        have O9 := hide ((show OwH w9 W1.heap.size (.slice (some ⟨gN, 0, none⟩) n cN) (.slice (some ⟨gC, 0, none⟩) n cC) n n L from ⟨KY.out.N, KY.out.C⟩).setC4 (w.heap.size + 1) (by have := SE.out; omega) (.slice (some ⟨gN, 0, none⟩) n cN) (.slice (some ⟨gC, 0, none⟩) n cC) (.int .i64 L.g) (.int .i64 L.t))
        go_wp2
        clear y0 y1 y2 y3 f0 f1 f2 f3 k0 k1 k2 k3
        obtain ⟨d0, d1, d2, d3⟩ := blk4 R9.out
        refine bodyPost_ret (v := .tuple #[hvV (.slice (some ⟨gN, 0, none⟩) n cN) (.slice (some ⟨gC, 0, none⟩) n cC) L.g L.t, .bool true]) (by simp [results, Try.f12, go_sem, d0, d1, d2, d3]) rfl ⟨_, _, rfl, ?_, B10.out⟩
        rw [HLN.out.1, HLN.out.2]
        exact O9.out.toBase (by have := SE.out; omega)
    · have htI : ¬ (tk : Int) < (n : Int) := by omega
      have HE := hide (show h' = lessH (upH h) n by rw [HH.out]; unfold addH; rw [if_neg hpx, if_neg htk])
      go_wp2_with fail
      refine (takeOneOff_any zb W1.heap.size gN cN gC cC n G (T + 1) (upH h) W1 w4 K4.out (by omega) hbG (fun i hi => HCT.out i hi)).mono ?_
      rintro e w5 ⟨rfl, k⟩
      have KX := hide (show BxH W1 w5 zb W1.heap.size gN cN gC cC n h'.g h'.t h'.nm h'.ct by
        rw [HE.out, show (lessH (upH h) n).g = G + 1 by rw [← HGT.out.1]; rfl, show (lessH (upH h) n).t = T + 1 by rw [← HGT.out.2]; rfl]
        exact k)
      clear k kx0 kx1 kx2 kx3
      obtain ⟨kx0, kx1, kx2, kx3⟩ := blk4 KX.out.X
      go_wp2_with fail
      refine (CB.out _ _ _ _ _ KX.out.hf).mono ?_
      rintro e w9 ⟨rfl, hb⟩
      have KY := hide (KX.out.below hb (Nat.le_trans (Nat.le_refl _) KX.out.S))
      have B9 := hide (BQ1.out.trans (KY.out.B.mono BQ1.out.size))
      have Z9 := hide (blk_kept K2W.out KY.out.B)
      clear hb kx0 kx1 kx2 kx3
      cases ok with
      | false =>
        obtain rfl : L = e0H := HL.out
        obtain ⟨y0, y1, y2, y3⟩ := blk4 Z9.out
        obtain ⟨f0, f1, f2, f3⟩ := frz4 Z9.out
        have R9 := hide (set4 (a' := (.slice none 0 0)) (b' := (.slice none 0 0)) (c' := .int .i64 0) (d' := .int .i64 0) Z9.out)
        have B10 := hide (below4 B9.out (w.heap.size + 1) (by omega) (.slice none 0 0) (.slice none 0 0) (.int .i64 0) (.int .i64 0))
        go_wp2
        clear y0 y1 y2 y3 f0 f1 f2 f3
        obtain ⟨d0, d1, d2, d3⟩ := blk4 R9.out
        refine bodyPost_ret (v := .tuple #[hvV (.slice none 0 0) (.slice none 0 0) 0 0, .bool false]) (by simp [results, Try.f12, go_sem, d0, d1, d2, d3]) rfl ⟨_, _, rfl, rh_nil B10.out⟩
      | true =>
        obtain rfl : L = h' := HL.out
        obtain ⟨y0, y1, y2, y3⟩ := blk4 Z9.out
        obtain ⟨f0, f1, f2, f3⟩ := frz4 Z9.out
        obtain ⟨k0, k1, k2, k3⟩ := blk4 KY.out.X
        have R9 := hide (set4 (a' := (.slice (some ⟨gN, 0, none⟩) n cN)) (b' := (.slice (some ⟨gC, 0, none⟩) n cC)) (c' := .int .i64 L.g) (d' := .int .i64 L.t) Z9.out)
        have B10 := hide (below4 B9.out (w.heap.size + 1) (by omega) (.slice (some ⟨gN, 0, none⟩) n cN) (.slice (some ⟨gC, 0, none⟩) n cC) (.int .i64 L.g) (.int .i64 L.t))
        have O9 := hide ((show OwH w9 W1.heap.size (.slice (some ⟨gN, 0, none⟩) n cN) (.slice (some ⟨gC, 0, none⟩) n cC) n n L from ⟨KY.out.N, KY.out.C⟩).setC4 (w.heap.size + 1) (by have := SE.out; omega) (.slice (some ⟨gN, 0, none⟩) n cN) (.slice (some ⟨gC, 0, none⟩) n cC) (.int .i64 L.g) (.int .i64 L.t))
        go_wp2
        clear y0 y1 y2 y3 f0 f1 f2 f3 k0 k1 k2 k3
        obtain ⟨d0, d1, d2, d3⟩ := blk4 R9.out
        refine bodyPost_ret (v := .tuple #[hvV (.slice (some ⟨gN, 0, none⟩) n cN) (.slice (some ⟨gC, 0, none⟩) n cC) L.g L.t, .bool true]) (by simp [results, Try.f12, go_sem, d0, d1, d2, d3]) rfl ⟨_, _, rfl, ?_, B10.out⟩
        rw [HLN.out.1, HLN.out.2]
        exact O9.out.toBase (by have := SE.out; omega)
end Go.Proofs.Yticgejaaoamhmao.L15H

namespace Go.Proofs.Yticgejaaoamhmao.L15H
open Go.RowKit L1 Own Str
set_option linter.unusedVariables false

set_option maxRecDepth 100000 in
set_option maxHeartbeats 8000000 in
theorem feedHeavy_any (x : Int) (a : Option Addr) (l : List ByteArray) (n c : Nat) (w : World) (hn : l.length = n) (hs : SlS w a l) (hn2 : n ≤ 1048576) (htx : ∀ i, i < l.length → (l.getD i e0).size ≤ 9223372036854775807) (ok : Bool) (L : Hv) (hr : IsFed x l ok L) :
    Calls Try.prog 21 #[.int .i64 x, .slice a n c] w fun e w' => ∃ v u, e = .returned (.tuple #[hvV v u L.g L.t, .bool ok]) ∧ RH w w' v u L := by
  obtain ⟨okn, hokn⟩ : ∃ b : Bool, b = true ↔ 1 ≤ x ∧ x ≤ 6 := ⟨decide (1 ≤ x ∧ x ≤ 6), by simp⟩
  obtain ⟨hN, hhN⟩ : ∃ h, h = newH x okn := ⟨_, rfl⟩
  have BX := (Below.refl w.heap.size w).alloc (Nat.le_refl _) (hvO (.slice none 0 0) (.slice none 0 0) 0 0)
  have g0 := L8.blk_new w (hvO (.slice none 0 0) (.slice none 0 0) 0 0)
  have ez : (w.alloc (hvO (.slice none 0 0) (.slice none 0 0) 0 0)).heap.size = w.heap.size + 1 := by simp
  obtain ⟨W0, hW0⟩ : ∃ W0, W0 = w.alloc (hvO (.slice none 0 0) (.slice none 0 0) 0 0) := ⟨_, rfl⟩
  rw [← hW0] at BX g0 ez
  have HW := hide hW0
  have BQ := hide BX
  have G0 := hide g0
  have EZ := hide ez
  have HS0 := hide (hs.below BX)
  have HN := hide hn
  have HTX := hide htx
  have CN := hide (implNewHeavy_any x W0 okn hokn hN hhN)
  have HR := hide hr
  have HHN := hide hhN
  have HOK := hide hokn
  clear BX g0 ez hW0 hs hn htx hr hhN hokn
  go_enter Try.func21, Try.ntmps21
  go_upto_region 1 with fail
  rw [← HW.out]
  go_wp2_with fail
  refine CN.out.mono ?_
  rintro e w1 ⟨v1, u1, rfl, hrh⟩
  obtain ⟨ho1, hb1⟩ := hrh
  obtain ⟨aN1, cN1, aC1, cC1, rfl, rfl, hf1⟩ := ho1.form
  have eA := (Below.refl w1.heap.size w1).alloc (Nat.le_refl _) (hvO (.slice aN1 hN.nm.length cN1) (.slice aC1 hN.ct.length cC1) hN.g hN.t)
  have X1 := hide (L8.blk_new w1 (hvO (.slice aN1 hN.nm.length cN1) (.slice aC1 hN.ct.length cC1) hN.g hN.t))
  have O1 := hide (ho1.below eA)
  have B1 := hide (hb1.trans (eA.mono hb1.size))
  have S1 := hide hb1.size
  clear ho1 hb1 hf1 eA
  go_upto_region 2 with fail
  obtain ⟨W1, hW1⟩ : ∃ W1, W1 = w1.alloc (hvO (.slice aN1 hN.nm.length cN1) (.slice aC1 hN.ct.length cC1) hN.g hN.t) := ⟨_, rfl⟩
  obtain ⟨zb, hzb⟩ : ∃ z, z = w1.heap.size := ⟨_, rfl⟩
  rw [← hW1] at X1 O1 B1
  rw [← hzb] at X1 S1
  rw [← hW1, ← hzb]
  clear hW1 hzb
  have B2 := hide (BQ.out.trans (B1.out.mono BQ.out.size))
  have Z2 := hide (blk_kept G0.out B1.out)
  cases hq : okn with
  | false =>
    have hf : ok = false := by
      cases hok : ok with
      | false => rfl
      | true => have h1 := (HR.out.iff.1 hok).1; have h2 := HOK.out.2 h1; rw [hq] at h2; cases h2
    subst hf
    have HL0 := hide (HR.out.no rfl)
    subst hq
    obtain ⟨y0, y1, y2, y3⟩ := blk4 Z2.out
    obtain ⟨f0, f1, f2, f3⟩ := frz4 Z2.out
    have R9 := hide (set4 (a' := (.slice none 0 0)) (b' := (.slice none 0 0)) (c' := .int .i64 0) (d' := .int .i64 0) Z2.out)
    have B9 := hide (below4 B2.out w.heap.size (Nat.le_refl _) (.slice none 0 0) (.slice none 0 0) (.int .i64 0) (.int .i64 0))
    go_wp2
    clear y0 y1 y2 y3 f0 f1 f2 f3
    obtain ⟨d0, d1, d2, d3⟩ := blk4 R9.out
    refine bodyPost_ret (v := .tuple #[hvV (.slice none 0 0) (.slice none 0 0) 0 0, .bool false]) (by simp [results, Try.f21, go_sem, d0, d1, d2, d3]) rfl ⟨_, _, by rw [HL0.out]; rfl, ?_⟩
    rw [HL0.out]
    exact rh_nil B9.out
  | true =>
  have hx := HOK.out.1 hq
  subst hq
  by_cases h200 : (200 : Int) < (n : Int)
  · have hf : ok = false := by
      cases hok : ok with
      | false => rfl
      | true => have h1 := (HR.out.iff.1 hok).2.1; rw [HN.out] at h1; omega
    subst hf
    have HL0 := hide (HR.out.no rfl)
    obtain ⟨y0, y1, y2, y3⟩ := blk4 Z2.out
    obtain ⟨f0, f1, f2, f3⟩ := frz4 Z2.out
    have R9 := hide (set4 (a' := (.slice none 0 0)) (b' := (.slice none 0 0)) (c' := .int .i64 0) (d' := .int .i64 0) Z2.out)
    have B9 := hide (below4 B2.out w.heap.size (Nat.le_refl _) (.slice none 0 0) (.slice none 0 0) (.int .i64 0) (.int .i64 0))
    go_wp2
    clear y0 y1 y2 y3 f0 f1 f2 f3
    obtain ⟨d0, d1, d2, d3⟩ := blk4 R9.out
    refine bodyPost_ret (v := .tuple #[hvV (.slice none 0 0) (.slice none 0 0) 0 0, .bool false]) (by simp [results, Try.f21, go_sem, d0, d1, d2, d3]) rfl ⟨_, _, by rw [HL0.out]; rfl, ?_⟩
    rw [HL0.out]
    exact rh_nil B9.out
  obtain ⟨m, hm⟩ : ∃ m, m = x.toNat := ⟨_, rfl⟩
  have hm1 : 1 ≤ m ∧ m ≤ 6 := by omega
  have HM := hide hm
  have HE : Hid (hN = ⟨List.replicate m e0, List.replicate m 0, 0, 0⟩) := hide (by rw [HHN.out, hm]; rfl)
  have hl1 : hN.nm.length = m := by rw [HE.out]; simp
  have hl2 : hN.ct.length = m := by rw [HE.out]; simp
  rw [hl1, hl2] at X1 O1
  have hzlt := (Array.getElem?_eq_some_iff.1 X1.out).1
  have BZ := hide (show W0.heap.size ≤ zb from S1.out)
  have HF0 : Hid (Fed m l 0 hN) := hide (by rw [HE.out]; exact Fed.zero)
  have RL : Hid (∃ (aN aC : Option Addr) (cN cC : Nat), W1.heap[zb]? = some (hvO (.slice aN m cN) (.slice aC m cC) hN.g hN.t) ∧ OwH W1 W0.heap.size (.slice aN m cN) (.slice aC m cC) m m hN) := hide ⟨_, _, _, _, X1.out, O1.out⟩
  clear hm hl1 hl2 X1 O1 S1 hzlt
  go_upto_region 5 with fail
  go_loopw [25] (fun i wr => ∃ (k : Nat) (h : Hv), k ≤ n ∧ i = .int .i64 (k : Int) ∧ Hid (Fed m l k h) ∧ Hid (∃ (aN aC : Option Addr) (cN cC : Nat), wr.heap[zb]? = some (hvO (.slice aN m cN) (.slice aC m cC) h.g h.t) ∧ OwH wr W0.heap.size (.slice aN m cN) (.slice aC m cC) m m h) ∧ Hid (Below W0.heap.size W0 wr)) (fun i _ => n - (intOf i).toNat)
  case atStart => exact ⟨0, hN, Nat.zero_le _, rfl, HF0, RL, B1⟩
  case round =>
    clear RL HF0 B1 B2 Z2
    obtain ⟨k, h, hk, rfl, HFD, HB, BW⟩ := hrel
    obtain ⟨aN, aC, cN, cC, hx6, ho⟩ := HB.out
    have X := hide hx6
    have O := hide ho
    clear HB hx6 ho
    have hgd := HFD.out.good hm1.1 hm1.2 (by omega)
    have HG := hide hgd
    have hzl := (Array.getElem?_eq_some_iff.1 X.out).1
    have hbw := BW.out.size
    clear hgd
    by_cases hlt : k < n
    · have hltI : (k : Int) < (n : Int) := by omega
      obtain ⟨b, off, rfl, hc0⟩ := HS0.out k (by rw [HN.out]; exact hlt)
      have hc := (BW.out.cell (p := ⟨b, off + k, none⟩) (blk_lt hc0)).trans hc0
      obtain ⟨s, hse⟩ : ∃ s, s = l.getD k e0 := ⟨_, rfl⟩
      have hsz : s.size ≤ 9223372036854775807 := by rw [hse]; exact HTX.out k (by rw [HN.out]; exact hlt)
      rw [← hse] at hc
      have HSE := hide hse
      clear hse hc0
      obtain ⟨ok2, L2, hr2⟩ := addR_ex h m m s
      have CA := hide (fun wx (hf : HF wx aN aC m m h) => addHeavy_any aN m cN aC m cC h.g h.t h s wx hf rfl rfl (by omega) (by omega) (good_sz HG.out.1 HG.out.2.1) hsz ok2 L2 hr2)
      have HR2 := hide hr2
      clear hr2
      obtain ⟨k0, k1, k2, k3⟩ := blk4 X.out
      go_wp2_with fail
      refine (CA.out _ O.out.hf).mono ?_
      rintro e w3 ⟨v3, u3, rfl, hrh⟩
      obtain ⟨ho3, hb3⟩ := hrh
      have X3 := hide (blk_kept X.out hb3)
      have B3 := hide (BW.out.trans (hb3.mono hbw))
      have Z3 := hide (blk_kept (blk_kept G0.out BW.out) hb3)
      have O3 := hide ho3
      obtain ⟨aN3, cN3, aC3, cC3, rfl, rfl, _⟩ := ho3.form
      clear ho3 hb3 k0 k1 k2 k3
      obtain ⟨y0, y1, y2, y3⟩ := blk4 X3.out
      obtain ⟨f0, f1, f2, f3⟩ := frz4 X3.out
      have R4 := hide (set4 (a' := (.slice aN3 L2.nm.length cN3)) (b' := (.slice aC3 L2.ct.length cC3)) (c' := .int .i64 L2.g) (d' := .int .i64 L2.t) X3.out)
      have B4 := hide (below4 B3.out zb BZ.out (.slice aN3 L2.nm.length cN3) (.slice aC3 L2.ct.length cC3) (.int .i64 L2.g) (.int .i64 L2.t))
      have O4 := hide (O3.out.setC4 zb hzl (.slice aN3 L2.nm.length cN3) (.slice aC3 L2.ct.length cC3) (.int .i64 L2.g) (.int .i64 L2.t))
      go_upto_region 8 with fail
      clear y0 y1 y2 y3 f0 f1 f2 f3
      obtain ⟨w4, hw4⟩ : ∃ x, x = (((w3.setCell ⟨zb, 0, none⟩ (.slice aN3 L2.nm.length cN3)).setCell ⟨zb, 1, none⟩ (.slice aC3 L2.ct.length cC3)).setCell ⟨zb, 2, none⟩ (.int .i64 L2.g)).setCell ⟨zb, 3, none⟩ (.int .i64 L2.t) := ⟨_, rfl⟩
      rw [← hw4] at R4 B4 O4
      rw [← hw4]
      clear hw4
      by_cases hwd : L3.Word false s
      · obtain ⟨tk, hk2⟩ := tk_ex h.nm m
        obtain ⟨p, hp⟩ := at_ex s tk (HG.out.1.rise hk2)
        obtain ⟨q1, q2⟩ := HR2.out.good tk p HG.out.1 hwd hk2 hp
        have ag := addH_good HG.out.1 HG.out.2.1 HG.out.2.2.1 (by rw [HG.out.2.2.2]; omega) hwd hk2 hp
        have al := addH_len (n := m) (m := m) (tk := tk) (p := p) (s := s) HG.out.2.1 HG.out.2.2.1
        obtain rfl : ok2 = true := q1.2 ag.1
        have e2 : L2 = addH h m tk p s := q2
        have l1 : L2.nm.length = m := by rw [e2]; exact al.1
        have l2 : L2.ct.length = m := by rw [e2]; exact al.2
        rw [l1, l2] at R4 O4
        have HF2 : Hid (Fed m l (k + 1) L2) := hide (by rw [e2, HSE.out]; exact Fed.step HFD.out (by rw [← HSE.out]; exact hwd) hk2 (by rw [← HSE.out]; exact hp))
        have HB2 : Hid (∃ (aN aC : Option Addr) (cN cC : Nat), w4.heap[zb]? = some (hvO (.slice aN m cN) (.slice aC m cC) L2.g L2.t) ∧ OwH w4 W0.heap.size (.slice aN m cN) (.slice aC m cC) m m L2) := hide ⟨_, _, _, _, R4.out, O4.out.toBase hbw⟩
        clear e2 l1 l2 ag al q1 q2
        go_wp2
        go_roundw
        case rel => exact ⟨k + 1, L2, by omega, by go_num, HF2, HB2, B4⟩
        case measure => simp [intOf]; omega
      · obtain ⟨rfl, _⟩ := HR2.out.bad (fun q => hwd q.2)
        have hf : ok = false := by
          cases hok : ok with
          | false => rfl
          | true => exact absurd (by have := (HR.out.iff.1 hok).2.2 k (by rw [HN.out]; exact hlt); rw [← HSE.out] at this; exact this) hwd
        subst hf
        have HL0 := hide (HR.out.no rfl)
        have Z4 := hide (blk_kept G0.out B4.out)
        have BB4 := hide (BQ.out.trans (B4.out.mono BQ.out.size))
        obtain ⟨y0, y1, y2, y3⟩ := blk4 Z4.out
        obtain ⟨f0, f1, f2, f3⟩ := frz4 Z4.out
        have R9 := hide (set4 (a' := (.slice none 0 0)) (b' := (.slice none 0 0)) (c' := .int .i64 0) (d' := .int .i64 0) Z4.out)
        have B9 := hide (below4 BB4.out w.heap.size (Nat.le_refl _) (.slice none 0 0) (.slice none 0 0) (.int .i64 0) (.int .i64 0))
        go_wp2
        clear y0 y1 y2 y3 f0 f1 f2 f3
        obtain ⟨d0, d1, d2, d3⟩ := blk4 R9.out
        refine bodyPost_ret (v := .tuple #[hvV (.slice none 0 0) (.slice none 0 0) 0 0, .bool false]) (by simp [results, Try.f21, go_sem, d0, d1, d2, d3]) rfl ⟨_, _, by rw [HL0.out]; rfl, ?_⟩
        rw [HL0.out]
        exact rh_nil B9.out
    · have hltI : ¬ (k : Int) < (n : Int) := by omega
      obtain rfl : k = n := by omega
      have hall : ok = true := by
        refine HR.out.iff.2 ⟨hx, by rw [HN.out]; omega, fun i hi => ?_⟩
        exact fed_words HFD.out i (by rw [← HN.out]; exact hi)
      subst hall
      have HLE := hide (show h = L from HFD.out.det (by have := HR.out.yes rfl; rw [HN.out, ← HM.out] at this; exact this))
      have Z4 := hide (blk_kept G0.out BW.out)
      have BB4 := hide (BQ.out.trans (BW.out.mono BQ.out.size))
      obtain ⟨k0, k1, k2, k3⟩ := blk4 X.out
      obtain ⟨y0, y1, y2, y3⟩ := blk4 Z4.out
      obtain ⟨f0, f1, f2, f3⟩ := frz4 Z4.out
      have R9 := hide (set4 (a' := (.slice aN m cN)) (b' := (.slice aC m cC)) (c' := .int .i64 h.g) (d' := .int .i64 h.t) Z4.out)
      have B9 := hide (below4 BB4.out w.heap.size (Nat.le_refl _) (.slice aN m cN) (.slice aC m cC) (.int .i64 h.g) (.int .i64 h.t))
      have O9 := hide (O.out.setC4 w.heap.size (by have := EZ.out; omega) (.slice aN m cN) (.slice aC m cC) (.int .i64 h.g) (.int .i64 h.t))
      have SE := hide (show w.heap.size ≤ W0.heap.size by have := EZ.out; omega)
      go_wp2
      clear y0 y1 y2 y3 f0 f1 f2 f3 k0 k1 k2 k3
      obtain ⟨d0, d1, d2, d3⟩ := blk4 R9.out
      refine bodyPost_ret (v := .tuple #[hvV (.slice aN m cN) (.slice aC m cC) h.g h.t, .bool true]) (by simp [results, Try.f21, go_sem, d0, d1, d2, d3]) rfl ⟨_, _, by rw [← HLE.out], ?_, B9.out⟩
      rw [← HLE.out, HG.out.2.1, HG.out.2.2.1]
      exact O9.out.toBase SE.out
end Go.Proofs.Yticgejaaoamhmao.L15H
