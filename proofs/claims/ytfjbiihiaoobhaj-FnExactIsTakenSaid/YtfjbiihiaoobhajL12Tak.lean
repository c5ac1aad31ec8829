/-
  Contracts: impl.isTaken and its closure.
-/
import Derived.Test.YtfjbiihiaoobhajL12SumM
import Derived.Test.YtfjbiihiaoobhajL12Bel
import Derived.Test.YtfjbiihiaoobhajL12Ev2
import Derived.Test.YtfjbiihiaoobhajL1Idx
import Derived.Deep.DeepCutAuto
namespace Go.Proofs.Ytfjbiihiaoobhaj.L12
open Go.RowKit L1 L9 Own Sli
set_option linter.unusedVariables false

set_option maxRecDepth 100000 in
set_option maxHeartbeats 4000000 in
theorem taken1_any (aC : Option Addr) (nC cC : Nat) (aW : Option Addr) (nW cW : Nat) (aK : Option Addr) (nK cK : Nat) (aH : Option Addr) (nH cH : Nat) (aF : Option Addr) (nF cF : Nat) (m : Bk) (w : World) (B : Nat) (hB : w.heap[B]? = some (bkO aC nC cC aW nW cW aK nK cK aH nH cH aF nF cF)) (hz : BkZ m nC nW nK nH nF) (hl : Lists m) (hF : BkF w aC aW aK aH aF m) (i j : Nat) (hi : i < nC) (hj : j < nC) (b : Bool) (hb : b = m.hd j i) :
    Calls Try.prog 48 #[.int .i64 i, .int .i64 j, .pointer (some ⟨B, 0, none⟩)] w fun e w' => e = .returned (.bool b) ∧ Below w.heap.size w w' := by
  have ec : m.n = nC := hz.c
  have lk : Hid (m.k.length = nC) := hide (by rw [hl.k, ec])
  have lW : Hid (m.W.length = nC * nC) := hide (by rw [hl.W, ec])
  have lH : Hid (m.H.length = nC) := hide (by rw [hl.H, ec])
  have lF : Hid (m.F.length = nC) := hide (by rw [hl.F, ec])
  have lh : Hid (∀ i, i < nC → (m.H.getD i []).length = nC) := hide (fun i hi => by rw [hl.h i (by omega), ec])
  have lf : Hid (∀ i, i < nC → (m.F.getD i []).length = nC) := hide (fun i hi => by rw [hl.f i (by omega), ec])
  have n5 : nC ≤ 5 := by have := hl.n5; omega
  have n1 : 1 ≤ nC := by have := hl.n1; omega
  have eK : nK = nC := by rw [← hz.k]; exact lk.out
  have eW : nW = nC * nC := by rw [← hz.W]; exact lW.out
  have eH : nH = nC := by rw [← hz.H]; exact lH.out
  have eF : nF = nC := by rw [← hz.F]; exact lF.out
  obtain ⟨b2, o2, rfl, x2, q2, h2, s2⟩ := hF.H j (by rw [lH.out]; exact hj)
  obtain ⟨b4, o4, rfl, h4⟩ := s2 i (by rw [lh.out j hj]; exact hi)
  rw [lh.out j hj] at h2
  have hb2 : b = (m.H.getD j []).getD i false := hb
  rw [← hb2] at h4
  have i0 : (0 : Int) ≤ (i : Int) := by omega
  have j0 : (0 : Int) ≤ (j : Int) := by omega
  have i1 : (i : Int) < (nC : Int) := by omega
  have j1 : (j : Int) < (nH : Int) := by omega
  obtain ⟨k0, k1, k2, k3, k4⟩ := blk5 hB
  clear hB hz hl hF s2 hb hb2 ec lk lW lH lF lh lf eK eW eH eF
  go_enter Try.func48, Try.ntmps48
  go_wp2
  go_ret
  exact ⟨rfl, Below.refl _ _⟩
set_option maxRecDepth 100000 in
set_option maxHeartbeats 4000000 in
theorem isTaken_any (aC : Option Addr) (nC cC : Nat) (aW : Option Addr) (nW cW : Nat) (aK : Option Addr) (nK cK : Nat) (aH : Option Addr) (nH cH : Nat) (aF : Option Addr) (nF cF : Nat) (m : Bk) (w : World) (hz : BkZ m nC nW nK nH nF) (hF : BkF w aC aW aK aH aF m) (hl : Lists m) (r : Bool) (hr : r = true ↔ m.taken) :
    Calls Try.prog 32 #[bkV aC nC cC aW nW cW aK nK cK aH nH cH aF nF cF] w fun e w' => e = .returned (.bool r) ∧ Below w.heap.size w w' := by
  have ec : m.n = nC := hz.c
  have lk : Hid (m.k.length = nC) := hide (by rw [hl.k, ec])
  have lW : Hid (m.W.length = nC * nC) := hide (by rw [hl.W, ec])
  have lH : Hid (m.H.length = nC) := hide (by rw [hl.H, ec])
  have lF : Hid (m.F.length = nC) := hide (by rw [hl.F, ec])
  have lh : Hid (∀ i, i < nC → (m.H.getD i []).length = nC) := hide (fun i hi => by rw [hl.h i (by omega), ec])
  have lf : Hid (∀ i, i < nC → (m.F.getD i []).length = nC) := hide (fun i hi => by rw [hl.f i (by omega), ec])
  have n5 : nC ≤ 5 := by have := hl.n5; omega
  have n1 : 1 ≤ nC := by have := hl.n1; omega
  have eK : nK = nC := by rw [← hz.k]; exact lk.out
  have eW : nW = nC * nC := by rw [← hz.W]; exact lW.out
  have eH : nH = nC := by rw [← hz.H]; exact lH.out
  have eF : nF = nC := by rw [← hz.F]; exact lF.out
  obtain ⟨bc, hbc⟩ := dec_ex12 ((-1 : Int) ∈ m.k)
  have CK := hide (fun wx (hb : Below w.heap.size w wx) => contains_any aK m.k nK cK (-1) wx hz.k (hF.k.below hb) hz.bk bc hbc)
  have C1 := hide (fun wx (hb : Below w.heap.size w wx) B hB i j hi hj => taken1_any aC nC cC aW nW cW aK nK cK aH nH cH aF nF cF m wx B hB hz hl (hF.below hb) i j hi hj (m.hd j i) rfl)
  have hmem : (-1 : Int) ∈ m.k ↔ ∃ i, i < nC ∧ m.kp i = -1 := by
    constructor
    · intro h
      obtain ⟨i, hi, e⟩ := List.getElem_of_mem h
      exact ⟨i, by have := lk.out; omega, by show m.k.getD i 0 = -1; simp [List.getD, List.getElem?_eq_getElem hi, e]⟩
    · rintro ⟨i, hi, e⟩
      have hi' : i < m.k.length := by have := lk.out; omega
      have e' : m.k.getD i 0 = -1 := e
      simp only [List.getD, List.getElem?_eq_getElem hi', Option.getD_some] at e'
      rw [← e']
      exact List.getElem_mem hi'
  obtain ⟨W0, hW0⟩ : ∃ W0, w.alloc (bkO aC nC cC aW nW cW aK nK cK aH nH cH aF nF cF) = W0 := ⟨_, rfl⟩
  have BX : Hid (Below w.heap.size w W0) := by rw [← hW0]; exact hide ((Below.refl _ _).alloc (Nat.le_refl _) _)
  have g0 : W0.heap[w.heap.size]? = some (bkO aC nC cC aW nW cW aK nK cK aH nH cH aF nF cF) := by rw [← hW0]; exact blk_newO _ _
  have F0 := hide (hF.below BX.out)
  have HW := hide hW0
  obtain ⟨k0, k1, k2, k3, k4⟩ := blk5 g0
  clear hW0
  have G0 := hide g0
  clear g0
  have EC := hide ec
  cases bc with
  | true =>
    obtain ⟨i, hi, e⟩ := hmem.1 (hbc.1 rfl)
    obtain rfl : r = false := bool_no12 hr (fun h => (h i (by omega)).1 e)
    clear hr hbc hF hz hl hmem e ec eK eW eH eF lk lW lH lF lh lf
    go_enter Try.func32, Try.ntmps32
    go_upto_region 1 with fail
    rw [HW.out]
    go_wp2_with fail
    refine (CK.out _ BX.out).mono ?_
    rintro e w1 ⟨rfl, hb1⟩
    have B1 := hide (BX.out.trans (hb1.mono BX.out.size))
    clear hb1
    go_wp2
    go_ret
    exact ⟨rfl, B1.out⟩
  | false =>
    have hno : ∀ i, i < nC → m.kp i ≠ -1 := fun i hi e => absurd (hbc.2 (hmem.2 ⟨i, hi, e⟩)) (by simp)
    have CE := hide (fun wy (hy : Below W0.heap.size W0 wy) => everyTaken_any nC ⟨w.heap.size, 0, none⟩ wy n5 (fun i j => m.hd j i) (fun wx i j hb hi hj _ => C1.out wx (BX.out.trans ((hy.trans (hb.mono hy.size)).mono BX.out.size)) w.heap.size (((hy.trans (hb.mono hy.size)).block w.heap.size (Array.getElem?_eq_some_iff.1 G0.out).1).trans G0.out) i j hi hj) r (by
      rw [hr]
      constructor
      · intro h i j hi hj hij
        exact (h j (by omega)).2 i (by omega) hij
      · intro h i hi
        exact ⟨hno i (by omega), fun j hj hij => h j i (by omega) (by omega) hij⟩))
    clear hr hbc hF hz hl hmem hno ec eK eW eH eF lk lW lH lF lh lf
    go_enter Try.func32, Try.ntmps32
    go_upto_region 1 with fail
    rw [HW.out]
    go_wp2_with fail
    refine (CK.out _ BX.out).mono ?_
    rintro e w1 ⟨rfl, hb1⟩
    have D1 := hide hb1
    have g1 := (hb1.block w.heap.size (Array.getElem?_eq_some_iff.1 G0.out).1).trans G0.out
    clear hb1 k0 k1 k2 k3 k4
    obtain ⟨k0, k1, k2, k3, k4⟩ := blk5 g1
    clear g1
    go_wp2_with fail
    refine (CE.out _ D1.out).mono ?_
    rintro e w2 ⟨rfl, hb2⟩
    have B1 := hide (BX.out.trans ((D1.out.trans (hb2.mono D1.out.size)).mono BX.out.size))
    clear hb2
    go_wp2
    go_ret
    exact ⟨rfl, B1.out⟩
end Go.Proofs.Ytfjbiihiaoobhaj.L12
