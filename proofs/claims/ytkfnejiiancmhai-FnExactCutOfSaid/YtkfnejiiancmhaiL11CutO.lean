/-
  Contract: impl.CutOf.
-/
import Derived.Test.YtkfnejiiancmhaiL11Clocks
import Derived.Test.YtkfnejiiancmhaiL11Reads
import Derived.Test.YtkfnejiiancmhaiL11JoinL
namespace Go.Proofs.Ytkfnejiiancmhai.L11
open Go.RowKit L1 Own
set_option linter.unusedVariables false

open Classical in
/-- What CutOf tells. -/
noncomputable def coRes (N : Int) (l : List Ev) (K : Int) : Option (List Int) := if GoodV N l ∧ 0 ≤ K ∧ K < (l.length : Int) then some (clL (cE l K.toNat) N.toNat) else none
set_option maxRecDepth 100000 in
set_option maxHeartbeats 4000000 in
theorem cutOf_any (N : Int) (a : Option Addr) (l : List (Int × Int)) (n cap : Nat) (K : Int) (w : World) (hn : l.length = n) (hs : Sl2 w a l) (hn2 : n ≤ 1048576) (r : Option (List Int)) (hr : r = coRes N l K) :
    Calls Try.prog 10 #[.int .i64 N, .slice a n cap, .int .i64 K] w fun e w' => RetL w r e w' := by
  have hno : ¬ (GoodV N l ∧ 0 ≤ K ∧ K < (l.length : Int)) → r = none := fun h => by rw [hr]; unfold coRes; rw [if_neg h]
  by_cases hg : GoodV N l
  case neg =>
    have CG := hide (fun w hs => goodEvents_any N a l n cap w hn hs hn2 false (by simp [hg]))
    have HR := hide (hno (fun h => hg h.1))
    have HS := hide hs
    clear hg hr hno hs hn
    go_enter Try.func10, Try.ntmps10
    go_wp2_with fail
    refine (CG.out _ HS.out).mono ?_
    rintro e w1 ⟨rfl, hb1⟩
    have B1 := hide hb1
    clear hb1
    go_wp2
    go_ret2
    exact ⟨_, by rw [HR.out]; rfl, by rw [HR.out]; exact World.ownsRow_nil _ _ _ _, B1.out⟩
  have CG := hide (fun w hs => goodEvents_any N a l n cap w hn hs hn2 true (by simp [hg]))
  by_cases hK : 0 ≤ K ∧ K < (n : Int)
  case neg =>
    have CA := hide (fun w => isBelow_any K (n : Int) w false (by simp; omega))
    have HR := hide (hno (fun h => hK (by rw [← hn]; exact h.2)))
    have HS := hide hs
    clear hg hr hno hs hn hK
    go_enter Try.func10, Try.ntmps10
    go_wp2_with fail
    refine (CG.out _ HS.out).mono ?_
    rintro e w1 ⟨rfl, hb1⟩
    have B1 := hide hb1
    clear hb1
    go_wp2_with fail
    refine (CA.out _).mono ?_
    rintro e w2 ⟨rfl, rfl⟩
    go_wp2
    go_ret2
    exact ⟨_, by rw [HR.out]; rfl, by rw [HR.out]; exact World.ownsRow_nil _ _ _ _, B1.out⟩
  have CA := hide (fun w => isBelow_any K (n : Int) w true (by simp; omega))
  obtain ⟨Kn, hKn⟩ : ∃ Kn : Nat, K = (Kn : Int) := ⟨K.toNat, by omega⟩
  subst hKn
  obtain ⟨Nn, hNn⟩ : ∃ Nn : Nat, N = (Nn : Int) := ⟨N.toNat, by have := hg.1; omega⟩
  subst hNn
  have hKl : Kn < n := by omega
  have HR : Hid (r = some (clL (cE l Kn) Nn)) := by rw [hr]; unfold coRes; rw [if_pos ⟨hg, by omega, by omega⟩]; rfl
  have CC := hide (fun w hs => clocksOf_any (Nn : Int) a l n cap w hn hs hg)
  have CL := hide (clockList_any (cE l Kn) Nn (by have := hg.1; omega) (by have := hg.2.1; omega))
  have HS := hide hs
  have hKI : (Kn : Int) < (n : Int) := by omega
  have hK0 : (0 : Int) ≤ (Kn : Int) := by omega
  clear hg hr hno hs hn hK
  go_enter Try.func10, Try.ntmps10
  go_wp2_with fail
  refine (CG.out _ HS.out).mono ?_
  rintro e w1 ⟨rfl, hb1⟩
  have B1 := hide hb1
  clear hb1
  go_wp2_with fail
  refine (CA.out _).mono ?_
  rintro e w2 ⟨rfl, rfl⟩
  go_wp2_with fail
  refine (CC.out _ (HS.out.below B1.out)).mono ?_
  rintro e w3 ⟨v, rfl, ho, hb3⟩
  have B3 := hide (B1.out.trans (hb3.mono B1.out.size))
  obtain ⟨oq, ocap, rfl⟩ : ∃ oq ocap, v = .slice (some ⟨oq, 0, none⟩) n ocap := by
    rcases ho.2 with ⟨hv, h0⟩ | ⟨q, cap, cur, hv, _⟩
    · omega
    · exact ⟨q, cap, hv⟩
  have p0 := ho.cells (g := oq) rfl (Kn * 5 + 0) _ (flat5_get (cE l) n Kn 0 hKl (by omega))
  have p1 := ho.cells (g := oq) rfl (Kn * 5 + 1) _ (flat5_get (cE l) n Kn 1 hKl (by omega))
  have p2 := ho.cells (g := oq) rfl (Kn * 5 + 2) _ (flat5_get (cE l) n Kn 2 hKl (by omega))
  have p3 := ho.cells (g := oq) rfl (Kn * 5 + 3) _ (flat5_get (cE l) n Kn 3 hKl (by omega))
  have p4 := ho.cells (g := oq) rfl (Kn * 5 + 4) _ (flat5_get (cE l) n Kn 4 hKl (by omega))
  rw [addr_add] at p0 p1 p2 p3 p4
  simp only [Nat.add_zero] at p0 p1 p2 p3 p4
  obtain ⟨E, hE⟩ : ∃ E : Nat → Int, E = cE l Kn := ⟨_, rfl⟩
  rw [← hE] at p0 p1 p2 p3 p4 CL HR
  clear ho hb3 hE CC CA CG B1
  go_wp2_with fail
  refine (CL.out _).mono ?_
  rintro e w4 ⟨v4, rfl, ho4, hb4⟩
  have B4 := hide (B3.out.trans (hb4.mono B3.out.size))
  have HO := hide (own_baseT ho4 B3.out.size)
  clear ho4 hb4
  go_wp2
  go_ret2
  exact ⟨_, by rw [HR.out]; rfl, by rw [HR.out]; simp only [Option.getD_some, clL_len]; exact HO.out, B4.out⟩
end Go.Proofs.Ytkfnejiiancmhai.L11
