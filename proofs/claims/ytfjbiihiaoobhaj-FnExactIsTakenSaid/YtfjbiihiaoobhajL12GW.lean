/-
  Contract: impl.goodWay.
-/
import Derived.Test.YtfjbiihiaoobhajL12GA
import Derived.Test.YtfjbiihiaoobhajL12Way
import Derived.Deep.QuietTactic
import Derived.BigQuiet
import Derived.Deep.DeepCutAuto
namespace Go.Proofs.Ytfjbiihiaoobhaj.L12
open Go.RowKit L1 L9 Own Sli
set_option linter.unusedVariables false

theorem below_drew12 {N : Nat} {w w' : World} (h : Below N w w') : ∀ q, Below N w (w'.drewN q)
  | 0 => h
  | q + 1 => (below_drew12 h q).drew
set_option maxRecDepth 100000 in
set_option maxHeartbeats 4000000 in
theorem goodWay_any (aC : Option Addr) (nC cC : Nat) (aW : Option Addr) (nW cW : Nat) (aK : Option Addr) (nK cK : Nat) (aH : Option Addr) (nH cH : Nat) (aF : Option Addr) (nF cF : Nat) (m : Bk) (w : World) (hz : BkZ m nC nW nK nH nF) (hl : Lists m) (hF : BkF w aC aW aK aH aF m) (i j : Nat) (hi : i < nC) (hj : j < nC) (hij : i ≠ j) (b : Bool) (hb : b = true ↔ WayOk m i j) :
    Calls Try.prog 45 #[bkV aC nC cC aW nW cW aK nK cK aH nH cH aF nF cF, .int .i64 i, .int .i64 j] w fun e w' => e = .returned (.bool b) ∧ Below w.heap.size w w' := by
  have ec : m.n = nC := hz.c
  have lk : Hid (m.k.length = nC) := hide (by rw [hl.k, ec])
  have lW : Hid (m.W.length = nC * nC) := hide (by rw [hl.W, ec])
  have lH : Hid (m.H.length = nC) := hide (by rw [hl.H, ec])
  have lF : Hid (m.F.length = nC) := hide (by rw [hl.F, ec])
  have lh : Hid (∀ i, i < nC → (m.H.getD i []).length = nC) := hide (fun i hi => by rw [hl.h i (by omega), ec])
  have lf : Hid (∀ i, i < nC → (m.F.getD i []).length = nC) := hide (fun i hi => by rw [hl.f i (by omega), ec])
  have n5 : nC ≤ 5 := by have := hl.n5; omega
  have n1 : 1 ≤ nC := by have := hl.n1; omega
  have eK : nK = nC := by rw [← hz.k]; exact lk.out
  have eW : nW = nC * nC := by rw [← hz.W]; exact lW.out
  have eH : nH = nC := by rw [← hz.H]; exact lH.out
  have eF : nF = nC := by rw [← hz.F]; exact lF.out
  obtain ⟨bi, hbi⟩ := dec_ex12 (m.kp i ≠ -1)
  obtain ⟨bj, hbj⟩ := dec_ex12 (m.kp j ≠ -1)
  have CPi := hide (fun wx (hb : Below w.heap.size w wx) => isPictured_any aC nC cC aW nW cW aK nK cK aH nH cH aF nF cF m wx (hF.below hb) i hz.k (by omega) bi hbi)
  have CPj := hide (fun wx (hb : Below w.heap.size w wx) => isPictured_any aC nC cC aW nW cW aK nK cK aH nH cH aF nF cF m wx (hF.below hb) j hz.k (by omega) bj hbj)
  obtain ⟨W0, hW0⟩ : ∃ W0, w.alloc (bkO aC nC cC aW nW cW aK nK cK aH nH cH aF nF cF) = W0 := ⟨_, rfl⟩
  have BX : Hid (Below w.heap.size w W0) := by rw [← hW0]; exact hide ((Below.refl _ _).alloc (Nat.le_refl _) _)
  have g0 : W0.heap[w.heap.size]? = some (bkO aC nC cC aW nW cW aK nK cK aH nH cH aF nF cF) := by rw [← hW0]; exact blk_newO _ _
  have F0 := hide (hF.below BX.out)
  have HW := hide hW0
  obtain ⟨k0, k1, k2, k3, k4⟩ := blk5 g0
  clear hW0 hF
  obtain ⟨p, hp⟩ : ∃ p, p = i * nC := ⟨_, rfl⟩
  obtain ⟨q, hq⟩ : ∃ q, q = p + j := ⟨_, rfl⟩
  have hq2 : q < nC * nC := by rw [hq, hp]; exact way_lt hi hj
  have h25 : nC * nC ≤ 25 := Nat.mul_le_mul n5 n5
  have hwy : m.wy i j = m.W.getD q [] := by show m.W.getD (i * m.n + j) [] = _; rw [ec, hq, hp]
  have sWq := hz.sW q (by rw [lW.out]; exact hq2)
  obtain ⟨b1, o1, rfl, x1, q1, h1, s1⟩ := F0.out.W q (by rw [lW.out]; exact hq2)
  obtain ⟨b2, o2, rfl, x2, q2, h2, s2⟩ := F0.out.H j (by rw [lH.out]; exact hj)
  obtain ⟨b3, o3, rfl, x3, q3, h3, s3⟩ := F0.out.F i (by rw [lF.out]; exact hi)
  obtain ⟨b4, o4, rfl, h4⟩ := s2 i (by rw [lh.out j hj]; exact hi)
  obtain ⟨b5, o5, rfl, h5⟩ := s3 j (by rw [lf.out i hi]; exact hj)
  rw [lh.out j hj] at h2
  rw [lf.out i hi] at h3
  obtain ⟨L, hL⟩ : ∃ L, L = (m.W.getD q []).length := ⟨_, rfl⟩
  obtain ⟨y, hy⟩ : ∃ y, y = (m.H.getD j []).getD i false := ⟨_, rfl⟩
  obtain ⟨x, hx⟩ : ∃ x, x = (m.F.getD i []).getD j 0 := ⟨_, rfl⟩
  have hb2 : b = true ↔ (0 ≤ x ∧ x ≤ 1000) ∧ (bj = false → y = false ∧ x = 0) ∧ OnOk (m.W.getD q []) (if bi = true then 40 else 39) := by
    rw [hb]
    have er : m.room i = if bi = true then 40 else 39 := by
      unfold Bk.room
      by_cases e : m.kp i = -1
      · rw [if_pos e, if_neg (fun h => (hbi.1 h) e)]
      · rw [if_neg e, if_pos (hbi.2 e)]
    have ej : m.kp j = -1 ↔ bj = false := by
      cases bj with
      | true => simp; exact hbj.1 rfl
      | false => simp; exact Classical.byContradiction (fun h => absurd (hbj.2 h) (by simp))
    constructor
    · intro h
      refine ⟨⟨by rw [hx]; exact h.f0, by rw [hx]; exact h.f1⟩, fun e => ⟨by rw [hy]; exact h.h (ej.2 e), by rw [hx]; exact h.f (ej.2 e)⟩, ?_⟩
      rw [← hwy, ← er]; exact h.w
    · rintro ⟨⟨a1, a2⟩, a3, a4⟩
      rw [hx] at a1 a2
      exact ⟨a1, a2, fun e => by have := (a3 (ej.1 e)).1; rw [hy] at this; exact this, fun e => by have := (a3 (ej.1 e)).2; rw [hx] at this; exact this, by rw [hwy, er]; exact a4⟩
  rw [← hL] at h1 sWq
  rw [← hy] at h4
  rw [← hx] at h5
  obtain ⟨room, hroom⟩ : ∃ room : Nat, room = if bi = true then 40 else 39 := ⟨_, rfl⟩
  rw [← hroom] at hb2
  obtain ⟨bo, hbo⟩ := dec_ex12 (OnOk (m.W.getD q []) room)
  have CO := hide (fun wx (hb : Below W0.heap.size W0 wx) => goodOnWay_any x1 (m.W.getD q []) L q1 room wx hL.symm (s1.below hb) sWq bo hbo)
  have CW := hide (fun wx => wayAt_any (nC : Int) (i : Int) (j : Int) wx (q : Int) true ⟨fun _ => ⟨rfl, by rw [hq, hp]; simp⟩, fun h => absurd (⟨by omega, by omega, by omega, by omega, by omega, by omega, by omega⟩ : IsWay (nC : Int) (i : Int) (j : Int)) h⟩)
  have hqW : (q : Int) < (nW : Int) := by rw [eW]; omega
  have i0 : (0 : Int) ≤ (i : Int) := by omega
  have j0 : (0 : Int) ≤ (j : Int) := by omega
  have q0 : (0 : Int) ≤ (q : Int) := by omega
  have i1 : (i : Int) < (nC : Int) := by omega
  have j1 : (j : Int) < (nC : Int) := by omega
  rw [hbo.symm] at hb2
  have G0 := hide g0
  have CH := hide (fun wx b hb => isHeld_any x wx b hb)
  subst eH
  subst eF
  clear hwy hp hq hL hy hx s1 s2 s3 F0 hz hl lk lW lH lF lh lf ec eK eW hq2 g0 h25 hb hbi hbj hbo hij sWq
  have H1 := hide h1
  by_cases c1 : 0 ≤ x ∧ x ≤ 1000
  rotate_left
  · obtain rfl : b = false := bool_no12 hb2 (fun h => c1 h.1)
    clear hb2
    go_enter Try.func45, Try.ntmps45
    go_upto_region 1 with fail
    rw [HW.out]
    go_quiet (fail)
    have D1 := hide (below_drew12 (Below.refl W0.heap.size W0) nq)
    obtain ⟨W1, hW1⟩ : ∃ W1, W0.drewN nq = W1 := ⟨_, rfl⟩
    rw [hW1] at D1
    rw [hW1]
    clear hW1
    have g1 := (D1.out.block w.heap.size (Array.getElem?_eq_some_iff.1 G0.out).1).trans G0.out
    clear k0 k1 k2 k3 k4
    obtain ⟨k0, k1, k2, k3, k4⟩ := blk5 g1
    have h1' := (D1.out.cell (p := ⟨b1, o1 + q, none⟩) (blk_lt h1)).trans h1
    clear g1 h1 h2 h3 h4 h5
    have B1 := hide (BX.out.trans (D1.out.mono BX.out.size))
    go_wp2_with fail
    refine (CH.out _ false (by simp; omega)).mono ?_
    rintro e w1 ⟨rfl, rfl⟩
    go_wp2
    go_ret
    exact ⟨rfl, B1.out⟩
  obtain ⟨c1a, c1b⟩ := c1
  cases bj with
  | true =>
    have HE : Hid (b = bo) := hide (by cases b <;> cases bo <;> simp_all)
    clear hb2
    go_enter Try.func45, Try.ntmps45
    go_upto_region 1 with fail
    rw [HW.out]
    go_quiet (fail)
    have D1 := hide (below_drew12 (Below.refl W0.heap.size W0) nq)
    obtain ⟨W1, hW1⟩ : ∃ W1, W0.drewN nq = W1 := ⟨_, rfl⟩
    rw [hW1] at D1
    rw [hW1]
    clear hW1
    have g1 := (D1.out.block w.heap.size (Array.getElem?_eq_some_iff.1 G0.out).1).trans G0.out
    clear k0 k1 k2 k3 k4
    obtain ⟨k0, k1, k2, k3, k4⟩ := blk5 g1
    have h1' := (D1.out.cell (p := ⟨b1, o1 + q, none⟩) (blk_lt h1)).trans h1
    clear g1 h1 h2 h3 h4 h5
    have B1 := hide (BX.out.trans (D1.out.mono BX.out.size))
    go_wp2_with fail
    refine (CH.out _ true (by simp; omega)).mono ?_
    rintro e w1 ⟨rfl, rfl⟩
    go_wp2_with fail
    refine (CPj.out _ B1.out).mono ?_
    rintro e w2 ⟨rfl, hb⟩
    have B2 := hide (B1.out.trans (hb.mono B1.out.size))
    have D2 := hide (D1.out.trans (hb.mono D1.out.size))
    clear hb k0 k1 k2 k3 k4 h1'
    have g1 := (D2.out.block w.heap.size (Array.getElem?_eq_some_iff.1 G0.out).1).trans G0.out
    obtain ⟨k0, k1, k2, k3, k4⟩ := blk5 g1
    have h1' := (D2.out.cell (p := ⟨b1, o1 + q, none⟩) (blk_lt H1.out)).trans H1.out
    clear g1
    go_wp2_with fail
    refine (CPi.out _ B2.out).mono ?_
    rintro e w3 ⟨rfl, hb⟩
    have B3 := hide (B2.out.trans (hb.mono B2.out.size))
    have D3 := hide (D2.out.trans (hb.mono D2.out.size))
    clear hb k0 k1 k2 k3 k4 h1'
    have g1 := (D3.out.block w.heap.size (Array.getElem?_eq_some_iff.1 G0.out).1).trans G0.out
    obtain ⟨k0, k1, k2, k3, k4⟩ := blk5 g1
    have h1' := (D3.out.cell (p := ⟨b1, o1 + q, none⟩) (blk_lt H1.out)).trans H1.out
    clear g1
    cases bi with
    | true =>
      obtain rfl : room = 40 := hroom
      go_wp2_with fail
      refine (CW.out _).mono ?_
      rintro e w9 ⟨rfl, rfl⟩
      go_wp2_with fail
      refine (CO.out _ D3.out).mono ?_
      rintro e w9 ⟨rfl, rfl⟩
      go_wp2
      go_ret
      exact ⟨by rw [HE.out]; rfl, B3.out⟩
    | false =>
      obtain rfl : room = 39 := hroom
      go_wp2_with fail
      refine (CW.out _).mono ?_
      rintro e w9 ⟨rfl, rfl⟩
      go_wp2_with fail
      refine (CO.out _ D3.out).mono ?_
      rintro e w9 ⟨rfl, rfl⟩
      go_wp2
      go_ret
      exact ⟨by rw [HE.out]; rfl, B3.out⟩
  | false =>
    cases y with
    | true =>
      obtain rfl : b = false := bool_no12 hb2 (fun h => by cases (h.2.1 rfl).1)
      clear hb2
      go_enter Try.func45, Try.ntmps45
      go_upto_region 1 with fail
      rw [HW.out]
      go_quiet (fail)
      have D1 := hide (below_drew12 (Below.refl W0.heap.size W0) nq)
      obtain ⟨W1, hW1⟩ : ∃ W1, W0.drewN nq = W1 := ⟨_, rfl⟩
      rw [hW1] at D1
      rw [hW1]
      clear hW1
      have g1 := (D1.out.block w.heap.size (Array.getElem?_eq_some_iff.1 G0.out).1).trans G0.out
      clear k0 k1 k2 k3 k4
      obtain ⟨k0, k1, k2, k3, k4⟩ := blk5 g1
      have h1' := (D1.out.cell (p := ⟨b1, o1 + q, none⟩) (blk_lt h1)).trans h1
      clear g1 h1 h2 h3 h4 h5
      have B1 := hide (BX.out.trans (D1.out.mono BX.out.size))
      go_wp2_with fail
      refine (CH.out _ true (by simp; omega)).mono ?_
      rintro e w1 ⟨rfl, rfl⟩
      go_wp2_with fail
      refine (CPj.out _ B1.out).mono ?_
      rintro e w2 ⟨rfl, hb⟩
      have B2 := hide (B1.out.trans (hb.mono B1.out.size))
      have D2 := hide (D1.out.trans (hb.mono D1.out.size))
      clear hb k0 k1 k2 k3 k4 h1'
      have g1 := (D2.out.block w.heap.size (Array.getElem?_eq_some_iff.1 G0.out).1).trans G0.out
      obtain ⟨k0, k1, k2, k3, k4⟩ := blk5 g1
      have h1' := (D2.out.cell (p := ⟨b1, o1 + q, none⟩) (blk_lt H1.out)).trans H1.out
      clear g1
      go_wp2
      go_ret
      exact ⟨rfl, B2.out⟩
    | false =>
      by_cases c2 : 0 < x
      · obtain rfl : b = false := bool_no12 hb2 (fun h => by have := (h.2.1 rfl).2; omega)
        clear hb2
        go_enter Try.func45, Try.ntmps45
        go_upto_region 1 with fail
        rw [HW.out]
        go_quiet (fail)
        have D1 := hide (below_drew12 (Below.refl W0.heap.size W0) nq)
        obtain ⟨W1, hW1⟩ : ∃ W1, W0.drewN nq = W1 := ⟨_, rfl⟩
        rw [hW1] at D1
        rw [hW1]
        clear hW1
        have g1 := (D1.out.block w.heap.size (Array.getElem?_eq_some_iff.1 G0.out).1).trans G0.out
        clear k0 k1 k2 k3 k4
        obtain ⟨k0, k1, k2, k3, k4⟩ := blk5 g1
        have h1' := (D1.out.cell (p := ⟨b1, o1 + q, none⟩) (blk_lt h1)).trans h1
        clear g1 h1 h2 h3 h4 h5
        have B1 := hide (BX.out.trans (D1.out.mono BX.out.size))
        go_wp2_with fail
        refine (CH.out _ true (by simp; omega)).mono ?_
        rintro e w1 ⟨rfl, rfl⟩
        go_wp2_with fail
        refine (CPj.out _ B1.out).mono ?_
        rintro e w2 ⟨rfl, hb⟩
        have B2 := hide (B1.out.trans (hb.mono B1.out.size))
        have D2 := hide (D1.out.trans (hb.mono D1.out.size))
        clear hb k0 k1 k2 k3 k4 h1'
        have g1 := (D2.out.block w.heap.size (Array.getElem?_eq_some_iff.1 G0.out).1).trans G0.out
        obtain ⟨k0, k1, k2, k3, k4⟩ := blk5 g1
        have h1' := (D2.out.cell (p := ⟨b1, o1 + q, none⟩) (blk_lt H1.out)).trans H1.out
        clear g1
        go_wp2
        go_ret
        exact ⟨rfl, B2.out⟩
      · have HE : Hid (b = bo) := hide (by
          have e : x = 0 := by omega
          cases b <;> cases bo <;> simp_all)
        clear hb2
        go_enter Try.func45, Try.ntmps45
        go_upto_region 1 with fail
        rw [HW.out]
        go_quiet (fail)
        have D1 := hide (below_drew12 (Below.refl W0.heap.size W0) nq)
        obtain ⟨W1, hW1⟩ : ∃ W1, W0.drewN nq = W1 := ⟨_, rfl⟩
        rw [hW1] at D1
        rw [hW1]
        clear hW1
        have g1 := (D1.out.block w.heap.size (Array.getElem?_eq_some_iff.1 G0.out).1).trans G0.out
        clear k0 k1 k2 k3 k4
        obtain ⟨k0, k1, k2, k3, k4⟩ := blk5 g1
        have h1' := (D1.out.cell (p := ⟨b1, o1 + q, none⟩) (blk_lt h1)).trans h1
        clear g1 h1 h2 h3 h4 h5
        have B1 := hide (BX.out.trans (D1.out.mono BX.out.size))
        go_wp2_with fail
        refine (CH.out _ true (by simp; omega)).mono ?_
        rintro e w1 ⟨rfl, rfl⟩
        go_wp2_with fail
        refine (CPj.out _ B1.out).mono ?_
        rintro e w2 ⟨rfl, hb⟩
        have B2 := hide (B1.out.trans (hb.mono B1.out.size))
        have D2 := hide (D1.out.trans (hb.mono D1.out.size))
        clear hb k0 k1 k2 k3 k4 h1'
        have g1 := (D2.out.block w.heap.size (Array.getElem?_eq_some_iff.1 G0.out).1).trans G0.out
        obtain ⟨k0, k1, k2, k3, k4⟩ := blk5 g1
        have h1' := (D2.out.cell (p := ⟨b1, o1 + q, none⟩) (blk_lt H1.out)).trans H1.out
        clear g1
        go_wp2_with fail
        refine (CPi.out _ B2.out).mono ?_
        rintro e w3 ⟨rfl, hb⟩
        have B3 := hide (B2.out.trans (hb.mono B2.out.size))
        have D3 := hide (D2.out.trans (hb.mono D2.out.size))
        clear hb k0 k1 k2 k3 k4 h1'
        have g1 := (D3.out.block w.heap.size (Array.getElem?_eq_some_iff.1 G0.out).1).trans G0.out
        obtain ⟨k0, k1, k2, k3, k4⟩ := blk5 g1
        have h1' := (D3.out.cell (p := ⟨b1, o1 + q, none⟩) (blk_lt H1.out)).trans H1.out
        clear g1
        cases bi with
        | true =>
          obtain rfl : room = 40 := hroom
          go_wp2_with fail
          refine (CW.out _).mono ?_
          rintro e w9 ⟨rfl, rfl⟩
          go_wp2_with fail
          refine (CO.out _ D3.out).mono ?_
          rintro e w9 ⟨rfl, rfl⟩
          go_wp2
          go_ret
          exact ⟨by rw [HE.out]; rfl, B3.out⟩
        | false =>
          obtain rfl : room = 39 := hroom
          go_wp2_with fail
          refine (CW.out _).mono ?_
          rintro e w9 ⟨rfl, rfl⟩
          go_wp2_with fail
          refine (CO.out _ D3.out).mono ?_
          rintro e w9 ⟨rfl, rfl⟩
          go_wp2
          go_ret
          exact ⟨by rw [HE.out]; rfl, B3.out⟩
end Go.Proofs.Ytfjbiihiaoobhaj.L12
