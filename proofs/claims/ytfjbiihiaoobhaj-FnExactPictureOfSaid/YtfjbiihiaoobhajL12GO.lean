/-
  Contract: impl.ownWayIsEmpty.
-/
import Derived.Test.YtfjbiihiaoobhajL12GMath
import Derived.Test.YtfjbiihiaoobhajL12Bel
import Derived.Deep.DeepCutAuto
namespace Go.Proofs.Ytfjbiihiaoobhaj.L12
open Go.RowKit L1 L9 Own Sli
set_option linter.unusedVariables false

set_option maxRecDepth 100000 in
set_option maxHeartbeats 4000000 in
theorem ownWay_any (aC : Option Addr) (nC cC : Nat) (aW : Option Addr) (nW cW : Nat) (aK : Option Addr) (nK cK : Nat) (aH : Option Addr) (nH cH : Nat) (aF : Option Addr) (nF cF : Nat) (m : Bk) (w : World) (hz : BkZ m nC nW nK nH nF) (hl : Lists m) (hF : BkF w aC aW aK aH aF m) (i : Nat) (hi : i < nC) (b : Bool) (hb : b = true ↔ (m.wy i i).length = 0 ∧ m.hd i i = false ∧ m.fd i i = 0) :
    Calls Try.prog 42 #[bkV aC nC cC aW nW cW aK nK cK aH nH cH aF nF cF, .int .i64 i] w fun e w' => e = .returned (.bool b) ∧ Below w.heap.size w w' := by
  have ec : m.n = nC := hz.c
  have lk : Hid (m.k.length = nC) := hide (by rw [hl.k, ec])
  have lW : Hid (m.W.length = nC * nC) := hide (by rw [hl.W, ec])
  have lH : Hid (m.H.length = nC) := hide (by rw [hl.H, ec])
  have lF : Hid (m.F.length = nC) := hide (by rw [hl.F, ec])
  have lh : Hid (∀ i, i < nC → (m.H.getD i []).length = nC) := hide (fun i hi => by rw [hl.h i (by omega), ec])
  have lf : Hid (∀ i, i < nC → (m.F.getD i []).length = nC) := hide (fun i hi => by rw [hl.f i (by omega), ec])
  have n5 : nC ≤ 5 := by have := hl.n5; omega
  have n1 : 1 ≤ nC := by have := hl.n1; omega
  have eK : nK = nC := by rw [← hz.k]; exact lk.out
  have eW : nW = nC * nC := by rw [← hz.W]; exact lW.out
  have eH : nH = nC := by rw [← hz.H]; exact lH.out
  have eF : nF = nC := by rw [← hz.F]; exact lF.out
  obtain ⟨W0, hW0⟩ : ∃ W0, w.alloc (bkO aC nC cC aW nW cW aK nK cK aH nH cH aF nF cF) = W0 := ⟨_, rfl⟩
  have BX : Hid (Below w.heap.size w W0) := by rw [← hW0]; exact hide ((Below.refl _ _).alloc (Nat.le_refl _) _)
  have g0 : W0.heap[w.heap.size]? = some (bkO aC nC cC aW nW cW aK nK cK aH nH cH aF nF cF) := by rw [← hW0]; exact blk_newO _ _
  have F0 := hide (hF.below BX.out)
  have HW := hide hW0
  obtain ⟨k0, k1, k2, k3, k4⟩ := blk5 g0
  clear hW0 hF
  obtain ⟨p, hp⟩ : ∃ p, p = i * nC := ⟨_, rfl⟩
  obtain ⟨j, hj⟩ : ∃ j, j = p + i := ⟨_, rfl⟩
  have hj2 : j < nC * nC := by rw [hj, hp]; exact way_lt hi hi
  have hpI : (i : Int) * (nC : Int) = (p : Int) := by rw [hp]; simp
  have hjI : (p : Int) + (i : Int) = (j : Int) := by rw [hj]; simp
  have h25 : nC * nC ≤ 25 := Nat.mul_le_mul n5 n5
  have hwy : m.wy i i = m.W.getD j [] := by show m.W.getD (i * m.n + i) [] = _; rw [ec, hj, hp]
  have sWj := hz.sW j (by rw [lW.out]; exact hj2)
  obtain ⟨b1, o1, rfl, x1, q1, h1, _⟩ := F0.out.W j (by rw [lW.out]; exact hj2)
  obtain ⟨b2, o2, rfl, x2, q2, h2, s2⟩ := F0.out.H i (by rw [lH.out]; exact hi)
  obtain ⟨b3, o3, rfl, x3, q3, h3, s3⟩ := F0.out.F i (by rw [lF.out]; exact hi)
  obtain ⟨b4, o4, rfl, h4⟩ := s2 i (by rw [lh.out i hi]; exact hi)
  obtain ⟨b5, o5, rfl, h5⟩ := s3 i (by rw [lf.out i hi]; exact hi)
  rw [lh.out i hi] at h2
  rw [lf.out i hi] at h3
  replace hb : b = true ↔ (m.wy i i).length = 0 ∧ (m.H.getD i []).getD i false = false ∧ (m.F.getD i []).getD i 0 = 0 := hb
  rw [hwy] at hb
  obtain ⟨L, hL⟩ : ∃ L, L = (m.W.getD j []).length := ⟨_, rfl⟩
  obtain ⟨y, hy⟩ : ∃ y, y = (m.H.getD i []).getD i false := ⟨_, rfl⟩
  obtain ⟨x, hx⟩ : ∃ x, x = (m.F.getD i []).getD i 0 := ⟨_, rfl⟩
  rw [← hL] at h1 hb sWj
  rw [← hy] at h4 hb
  rw [← hx] at h5 hb
  have hjW : (j : Int) < (nW : Int) := by rw [eW]; omega
  have i0 : (0 : Int) ≤ (i : Int) := by omega
  have j0 : (0 : Int) ≤ (j : Int) := by omega
  have i1 : (i : Int) < (nC : Int) := by omega
  have j25 : (j : Int) ≤ 25 := by omega
  have p25 : (p : Int) ≤ 25 := by omega
  subst eH
  subst eF
  clear hwy hj hp hL hy hx s2 s3 F0 hz hl lk lW lH lF lh lf ec eK eW hj2 g0 h25
  by_cases e1 : L = 0
  rotate_left
  · obtain rfl : b = false := bool_no12 hb (fun h => e1 h.1)
    have e1' : ((L : Int) == 0) = false := by simp; omega
    clear hb e1
    go_enter Try.func42, Try.ntmps42
    go_upto_region 1 with fail
    rw [HW.out]
    go_wp2
    go_ret
    exact ⟨rfl, BX.out⟩
  subst e1
  cases y with
  | true =>
    obtain rfl : b = false := bool_no12 hb (fun h => by cases h.2.1)
    clear hb
    go_enter Try.func42, Try.ntmps42
    go_upto_region 1 with fail
    rw [HW.out]
    go_wp2
    go_ret
    exact ⟨rfl, BX.out⟩
  | false =>
    by_cases e2 : x = 0
    · subst e2
      obtain rfl : b = true := hb.2 ⟨rfl, rfl, rfl⟩
      clear hb
      go_enter Try.func42, Try.ntmps42
      go_upto_region 1 with fail
      rw [HW.out]
      go_wp2
      go_ret
      exact ⟨rfl, BX.out⟩
    · have e2' : (x == 0) = false := by simp [e2]
      obtain rfl : b = false := bool_no12 hb (fun h => e2 h.2.2)
      clear hb e2
      go_enter Try.func42, Try.ntmps42
      go_upto_region 1 with fail
      rw [HW.out]
      go_wp2
      go_ret
      exact ⟨rfl, BX.out⟩
end Go.Proofs.Ytfjbiihiaoobhaj.L12
