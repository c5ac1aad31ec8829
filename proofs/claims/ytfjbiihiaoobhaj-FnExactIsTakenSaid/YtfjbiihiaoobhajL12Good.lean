/-
  Contract: impl.GoodBank.
-/
import Derived.Test.YtfjbiihiaoobhajL12GA
import Derived.Test.YtfjbiihiaoobhajL12GL
import Derived.Test.YtfjbiihiaoobhajL12GO
import Derived.Test.YtfjbiihiaoobhajL12GW
import Derived.Test.YtfjbiihiaoobhajL12Ev1
import Derived.Deep.DeepCutAuto
namespace Go.Proofs.Ytfjbiihiaoobhaj.L12
open Go.RowKit L1 L9 Own Sli
set_option linter.unusedVariables false

set_option maxRecDepth 100000 in
set_option maxHeartbeats 4000000 in
theorem goodBank1_any (aC : Option Addr) (nC cC : Nat) (aW : Option Addr) (nW cW : Nat) (aK : Option Addr) (nK cK : Nat) (aH : Option Addr) (nH cH : Nat) (aF : Option Addr) (nF cF : Nat) (m : Bk) (w : World) (B : Nat) (hB : w.heap[B]? = some (bkO aC nC cC aW nW cW aK nK cK aH nH cH aF nF cF)) (hz : BkZ m nC nW nK nH nF) (hl : Lists m) (hF : BkF w aC aW aK aH aF m) (i j : Nat) (hi : i < nC) (hj : j < nC) (hij : i ≠ j) (b : Bool) (hb : b = true ↔ WayOk m i j) :
    Calls Try.prog 44 #[.int .i64 i, .int .i64 j, .pointer (some ⟨B, 0, none⟩)] w fun e w' => e = .returned (.bool b) ∧ Below w.heap.size w w' := by
  have C := hide (goodWay_any aC nC cC aW nW cW aK nK cK aH nH cH aF nF cF m w hz hl hF i j hi hj hij b hb)
  obtain ⟨k0, k1, k2, k3, k4⟩ := blk5 hB
  clear hb hF hl hz hB
  go_enter Try.func44, Try.ntmps44
  go_wp2_with fail
  refine C.out.mono ?_
  rintro e w1 ⟨rfl, hb1⟩
  have B1 := hide hb1
  clear hb1
  go_wp2
  go_ret
  exact ⟨rfl, B1.out⟩
theorem node_iff (m : Bk) (i : Nat) (bp bo : Bool) (hp : bp = true ↔ m.k.getD i 0 ≠ -1) (ho : bo = true ↔ (m.wy i i).length = 0 ∧ m.hd i i = false ∧ m.fd i i = 0) : NodeOk m i ↔ (0 ≤ m.c.getD i 0 ∧ m.c.getD i 0 ≤ 1000) ∧ (bp = true → 0 ≤ m.k.getD i 0 ∧ m.k.getD i 0 ≤ 1000) ∧ bo = true := by
  constructor
  · intro h
    refine ⟨⟨h.c0, h.c1⟩, fun e => ?_, ho.2 ⟨h.w, h.h, h.f⟩⟩
    have e1 := hp.1 e
    have h0 : -1 ≤ m.k.getD i 0 := h.k0
    have h1 : m.k.getD i 0 ≤ 1000 := h.k1
    omega
  · rintro ⟨⟨h1, h2⟩, h3, h4⟩
    obtain ⟨h5, h6, h7⟩ := ho.1 h4
    have hk : -1 ≤ m.k.getD i 0 ∧ m.k.getD i 0 ≤ 1000 := by
      cases bp with
      | true => have := h3 rfl; omega
      | false =>
        have : m.k.getD i 0 = -1 := Classical.byContradiction (fun h => absurd (hp.2 h) (by simp))
        omega
    exact ⟨h1, h2, hk.1, hk.2, h5, h6, h7⟩
set_option maxRecDepth 100000 in
set_option maxHeartbeats 4000000 in
theorem goodBank_any (aC : Option Addr) (nC cC : Nat) (aW : Option Addr) (nW cW : Nat) (aK : Option Addr) (nK cK : Nat) (aH : Option Addr) (nH cH : Nat) (aF : Option Addr) (nF cF : Nat) (m : Bk) (w : World) (hz : BkZ m nC nW nK nH nF) (hF : BkF w aC aW aK aH aF m) (b : Bool) (hb : b = true ↔ GoodB m) :
    Calls Try.prog 26 #[bkV aC nC cC aW nW cW aK nK cK aH nH cH aF nF cF] w fun e w' => e = .returned (.bool b) ∧ Below w.heap.size w w' := by
  obtain ⟨bl, hbl⟩ := dec_ex12 (Lists m)
  have CL := hide (fun wx (hb : Below w.heap.size w wx) => hasLists_any aC nC cC aW nW cW aK nK cK aH nH cH aF nF cF m wx hz (hF.below hb) bl hbl)
  obtain ⟨W0, hW0⟩ : ∃ W0, w.alloc (bkO aC nC cC aW nW cW aK nK cK aH nH cH aF nF cF) = W0 := ⟨_, rfl⟩
  have BX : Hid (Below w.heap.size w W0) := by rw [← hW0]; exact hide ((Below.refl _ _).alloc (Nat.le_refl _) _)
  have g0 : W0.heap[w.heap.size]? = some (bkO aC nC cC aW nW cW aK nK cK aH nH cH aF nF cF) := by rw [← hW0]; exact blk_newO _ _
  have F0 := hide (hF.below BX.out)
  have HW := hide hW0
  obtain ⟨k0, k1, k2, k3, k4⟩ := blk5 g0
  clear hW0
  have G0 := hide g0
  clear g0
  cases bl with
  | false =>
    obtain rfl : b = false := bool_no12 hb (fun h => absurd (hbl.2 h.l) (by simp))
    clear hb hbl hF hz
    go_enter Try.func26, Try.ntmps26
    go_upto_region 1 with fail
    rw [HW.out]
    go_wp2_with fail
    refine (CL.out _ BX.out).mono ?_
    rintro e w1 ⟨rfl, hb1⟩
    have B1 := hide (BX.out.trans (hb1.mono BX.out.size))
    clear hb1
    go_wp2
    go_ret
    exact ⟨rfl, B1.out⟩
  | true =>
    have hl := hbl.1 rfl
    have ec : m.n = nC := hz.c
    have lk : Hid (m.k.length = nC) := hide (by rw [hl.k, ec])
    have lW : Hid (m.W.length = nC * nC) := hide (by rw [hl.W, ec])
    have lH : Hid (m.H.length = nC) := hide (by rw [hl.H, ec])
    have lF : Hid (m.F.length = nC) := hide (by rw [hl.F, ec])
    have lh : Hid (∀ i, i < nC → (m.H.getD i []).length = nC) := hide (fun i hi => by rw [hl.h i (by omega), ec])
    have lf : Hid (∀ i, i < nC → (m.F.getD i []).length = nC) := hide (fun i hi => by rw [hl.f i (by omega), ec])
    have n5 : nC ≤ 5 := by have := hl.n5; omega
    have n1 : 1 ≤ nC := by have := hl.n1; omega
    have eK : nK = nC := by rw [← hz.k]; exact lk.out
    have eW : nW = nC * nC := by rw [← hz.W]; exact lW.out
    have eH : nH = nC := by rw [← hz.H]; exact lH.out
    have eF : nF = nC := by rw [← hz.F]; exact lF.out
    have CP := hide (fun wx (hb : Below w.heap.size w wx) i hi bi hbi => isPictured_any aC nC cC aW nW cW aK nK cK aH nH cH aF nF cF m wx (hF.below hb) i hz.k hi bi hbi)
    have CO := hide (fun wx (hb : Below w.heap.size w wx) i hi bi hbi => ownWay_any aC nC cC aW nW cW aK nK cK aH nH cH aF nF cF m wx hz hl (hF.below hb) i hi bi hbi)
    have CG := hide (fun wx (hb : Below w.heap.size w wx) B hB i j hi hj hij bi hbi => goodBank1_any aC nC cC aW nW cW aK nK cK aH nH cH aF nF cF m wx B hB hz hl (hF.below hb) i j hi hj hij bi hbi)
    obtain ⟨P, hP⟩ : ∃ P : Nat → Nat → Bool, ∀ i j, P i j = true ↔ WayOk m i j := ⟨fun i j => (dec_ex12 (WayOk m i j)).choose, fun i j => (dec_ex12 (WayOk m i j)).choose_spec⟩
    obtain ⟨bw, hbw⟩ := dec_ex12 (∀ i j, i < nC → j < nC → i ≠ j → P i j = true)
    have HB : Hid ((∀ i, i < nC → NodeOk m i) → b = bw) := hide (fun h => by
      have e : b = true ↔ bw = true := by
        rw [hb, hbw]
        constructor
        · intro g i j hi hj hij
          exact (hP i j).2 (g.w i j (by omega) (by omega) hij)
        · intro g
          exact ⟨hl, fun i hi => h i (by omega), fun i j hi hj hij => (hP i j).1 (g i j (by omega) (by omega) hij)⟩
      cases b <;> cases bw <;> simp_all)
    have HNo : Hid (b = true → ∀ i, i < nC → NodeOk m i) := hide (fun h i hi => (hb.1 h).n i (by omega))
    have HP := hide hP
    have HBW := hide hbw
    have lc : Hid (m.c.length = nC) := hide hz.c
    have EK := hide eK
    clear hb hbl hF hz hl ec eK eW eH eF hP hbw lW lH lF lh lf
    go_enter Try.func26, Try.ntmps26
    go_upto_region 1 with fail
    rw [HW.out]
    go_wp2_with fail
    refine (CL.out _ BX.out).mono ?_
    rintro e w1 ⟨rfl, hb1⟩
    have D1 := hide hb1
    clear hb1 k0 k1 k2 k3 k4
    go_wp2
    go_loopw [13] (fun t wr => ∃ i : Nat, i ≤ nC ∧ t = .int .i64 i ∧ Hid (∀ x, x < i → NodeOk m x) ∧ Hid (Below W0.heap.size W0 wr)) (fun t _ => nC - (intOf t).toNat)
    case atStart => exact ⟨0, Nat.zero_le _, rfl, fun x hx => absurd hx (Nat.not_lt_zero _), D1⟩
    case round =>
      obtain ⟨i, hi, rfl, HI, BI⟩ := hrel
      have g1 := (BI.out.block w.heap.size (Array.getElem?_eq_some_iff.1 G0.out).1).trans G0.out
      obtain ⟨k0, k1, k2, k3, k4⟩ := blk5 g1
      have B1 := hide (BX.out.trans (BI.out.mono BX.out.size))
      clear g1
      by_cases hlt : i < nC
      · have hltI : (i : Int) < (nC : Int) := by omega
        have i0 : (0 : Int) ≤ (i : Int) := by omega
        have FI := F0.out.below BI.out
        obtain ⟨b1, o1, rfl, h1⟩ := sl_cell FI.c lc.out hlt
        obtain ⟨b2, o2, rfl, h2⟩ := sl_cell FI.k lk.out hlt
        clear FI
        have H2 := hide h2
        have hKI : (i : Int) < (nK : Int) := by rw [EK.out]; omega
        obtain ⟨bp, hbp⟩ := dec_ex12 (m.k.getD i 0 ≠ -1)
        obtain ⟨bo, hbo⟩ := dec_ex12 ((m.wy i i).length = 0 ∧ m.hd i i = false ∧ m.fd i i = 0)
        have HNI := hide (node_iff m i bp bo hbp hbo)
        have CPi := hide (fun wx hb => CP.out wx hb i (by rw [EK.out]; exact hlt) bp hbp)
        have COi := hide (fun wx hb => CO.out wx hb i hlt bo hbo)
        obtain ⟨x, hx⟩ : ∃ x, x = m.c.getD i 0 := ⟨_, rfl⟩
        obtain ⟨y, hy⟩ : ∃ y, y = m.k.getD i 0 := ⟨_, rfl⟩
        rw [← hx] at h1
        rw [← hy] at h2 H2
        rw [← hx, ← hy] at HNI
        have NO : Hid (¬ ((0 ≤ x ∧ x ≤ 1000) ∧ (bp = true → 0 ≤ y ∧ y ≤ 1000) ∧ bo = true) → b = false) := hide (fun h => by
          cases b with
          | false => rfl
          | true => exact absurd (HNI.out.1 (HNo.out rfl i hlt)) h)
        have NX : Hid (((0 ≤ x ∧ x ≤ 1000) ∧ (bp = true → 0 ≤ y ∧ y ≤ 1000) ∧ bo = true) → ∀ z, z < i + 1 → NodeOk m z) := hide (fun h z hz => by
          by_cases e : z = i
          · subst e; exact HNI.out.2 h
          · exact HI.out z (by omega))
        clear hx hy hbp hbo HNI
        by_cases c1 : 0 ≤ x ∧ x ≤ 1000
        rotate_left
        · have HM := hide (NO.out (fun h => c1 h.1))
          go_wp2_with fail
          refine (isHeld_any x _ false (by simp; omega)).mono ?_
          rintro e w2 ⟨rfl, rfl⟩
          go_wp2
          go_ret
          exact ⟨by rw [HM.out]; rfl, B1.out⟩
        have HC1 := hide c1
        cases bp with
        | true =>
          by_cases c2 : 0 ≤ y ∧ y ≤ 1000
          rotate_left
          · have HM := hide (NO.out (fun h => c2 (h.2.1 rfl)))
            go_wp2_with fail
            refine (isHeld_any x _ true (by simp; omega)).mono ?_
            rintro e w2 ⟨rfl, rfl⟩
            clear c1
            go_wp2_with fail
            refine (CPi.out _ B1.out).mono ?_
            rintro e w2 ⟨rfl, hb2⟩
            have D2 := hide (BI.out.trans (hb2.mono BI.out.size))
            have B2 := hide (B1.out.trans (hb2.mono B1.out.size))
            have h2' := (hb2.cell (p := ⟨b2, o2 + i, none⟩) (blk_lt H2.out)).trans H2.out
            have g1 := (D2.out.block w.heap.size (Array.getElem?_eq_some_iff.1 G0.out).1).trans G0.out
            clear hb2 k0 k1 k2 k3 k4 h2 h1
            obtain ⟨k0, k1, k2, k3, k4⟩ := blk5 g1
            clear g1
            go_wp2_with fail
            refine (isHeld_any y _ false (by simp; omega)).mono ?_
            rintro e w2 ⟨rfl, rfl⟩
            go_wp2
            go_ret
            exact ⟨by rw [HM.out]; rfl, B2.out⟩
          have HC2 := hide c2
          cases bo with
          | true =>
            have NX2 := hide (NX.out ⟨c1, fun _ => c2, rfl⟩)
            go_wp2_with fail
            refine (isHeld_any x _ true (by simp; omega)).mono ?_
            rintro e w2 ⟨rfl, rfl⟩
            clear c1
            go_wp2_with fail
            refine (CPi.out _ B1.out).mono ?_
            rintro e w2 ⟨rfl, hb2⟩
            have D2 := hide (BI.out.trans (hb2.mono BI.out.size))
            have B2 := hide (B1.out.trans (hb2.mono B1.out.size))
            have h2' := (hb2.cell (p := ⟨b2, o2 + i, none⟩) (blk_lt H2.out)).trans H2.out
            have g1 := (D2.out.block w.heap.size (Array.getElem?_eq_some_iff.1 G0.out).1).trans G0.out
            clear hb2 k0 k1 k2 k3 k4 h2 h1
            obtain ⟨k0, k1, k2, k3, k4⟩ := blk5 g1
            clear g1
            go_wp2_with fail
            refine (isHeld_any y _ true (by simp; omega)).mono ?_
            rintro e w2 ⟨rfl, rfl⟩
            clear c2
            go_wp2_with fail
            refine (COi.out _ B2.out).mono ?_
            rintro e w3 ⟨rfl, hb2⟩
            have D3 := hide (D2.out.trans (hb2.mono D2.out.size))
            have B3 := hide (B2.out.trans (hb2.mono B2.out.size))
            clear hb2 k0 k1 k2 k3 k4 h2'
            go_wp2
            go_roundw
            case rel => exact ⟨i + 1, by omega, by go_num, NX2, D3⟩
            case measure => simp [intOf]; omega
          | false =>
            have HM := hide (NO.out (fun h => by cases h.2.2))
            go_wp2_with fail
            refine (isHeld_any x _ true (by simp; omega)).mono ?_
            rintro e w2 ⟨rfl, rfl⟩
            clear c1
            go_wp2_with fail
            refine (CPi.out _ B1.out).mono ?_
            rintro e w2 ⟨rfl, hb2⟩
            have D2 := hide (BI.out.trans (hb2.mono BI.out.size))
            have B2 := hide (B1.out.trans (hb2.mono B1.out.size))
            have h2' := (hb2.cell (p := ⟨b2, o2 + i, none⟩) (blk_lt H2.out)).trans H2.out
            have g1 := (D2.out.block w.heap.size (Array.getElem?_eq_some_iff.1 G0.out).1).trans G0.out
            clear hb2 k0 k1 k2 k3 k4 h2 h1
            obtain ⟨k0, k1, k2, k3, k4⟩ := blk5 g1
            clear g1
            go_wp2_with fail
            refine (isHeld_any y _ true (by simp; omega)).mono ?_
            rintro e w2 ⟨rfl, rfl⟩
            clear c2
            go_wp2_with fail
            refine (COi.out _ B2.out).mono ?_
            rintro e w3 ⟨rfl, hb2⟩
            have D3 := hide (D2.out.trans (hb2.mono D2.out.size))
            have B3 := hide (B2.out.trans (hb2.mono B2.out.size))
            clear hb2 k0 k1 k2 k3 k4 h2'
            go_wp2
            go_ret
            exact ⟨by rw [HM.out]; rfl, B3.out⟩
        | false =>
          cases bo with
          | true =>
            have NX2 := hide (NX.out ⟨c1, (fun h => (by cases h)), rfl⟩)
            go_wp2_with fail
            refine (isHeld_any x _ true (by simp; omega)).mono ?_
            rintro e w2 ⟨rfl, rfl⟩
            clear c1
            go_wp2_with fail
            refine (CPi.out _ B1.out).mono ?_
            rintro e w2 ⟨rfl, hb2⟩
            have D2 := hide (BI.out.trans (hb2.mono BI.out.size))
            have B2 := hide (B1.out.trans (hb2.mono B1.out.size))
            have h2' := (hb2.cell (p := ⟨b2, o2 + i, none⟩) (blk_lt H2.out)).trans H2.out
            have g1 := (D2.out.block w.heap.size (Array.getElem?_eq_some_iff.1 G0.out).1).trans G0.out
            clear hb2 k0 k1 k2 k3 k4 h2 h1
            obtain ⟨k0, k1, k2, k3, k4⟩ := blk5 g1
            clear g1
            go_wp2_with fail
            refine (COi.out _ B2.out).mono ?_
            rintro e w3 ⟨rfl, hb2⟩
            have D3 := hide (D2.out.trans (hb2.mono D2.out.size))
            have B3 := hide (B2.out.trans (hb2.mono B2.out.size))
            clear hb2 k0 k1 k2 k3 k4 h2'
            go_wp2
            go_roundw
            case rel => exact ⟨i + 1, by omega, by go_num, NX2, D3⟩
            case measure => simp [intOf]; omega
          | false =>
            have HM := hide (NO.out (fun h => by cases h.2.2))
            go_wp2_with fail
            refine (isHeld_any x _ true (by simp; omega)).mono ?_
            rintro e w2 ⟨rfl, rfl⟩
            clear c1
            go_wp2_with fail
            refine (CPi.out _ B1.out).mono ?_
            rintro e w2 ⟨rfl, hb2⟩
            have D2 := hide (BI.out.trans (hb2.mono BI.out.size))
            have B2 := hide (B1.out.trans (hb2.mono B1.out.size))
            have h2' := (hb2.cell (p := ⟨b2, o2 + i, none⟩) (blk_lt H2.out)).trans H2.out
            have g1 := (D2.out.block w.heap.size (Array.getElem?_eq_some_iff.1 G0.out).1).trans G0.out
            clear hb2 k0 k1 k2 k3 k4 h2 h1
            obtain ⟨k0, k1, k2, k3, k4⟩ := blk5 g1
            clear g1
            go_wp2_with fail
            refine (COi.out _ B2.out).mono ?_
            rintro e w3 ⟨rfl, hb2⟩
            have D3 := hide (D2.out.trans (hb2.mono D2.out.size))
            have B3 := hide (B2.out.trans (hb2.mono B2.out.size))
            clear hb2 k0 k1 k2 k3 k4 h2'
            go_wp2
            go_ret
            exact ⟨by rw [HM.out]; rfl, B3.out⟩
      · have hltI : ¬ (i : Int) < (nC : Int) := by omega
        have HE := hide (HB.out (fun x hx => HI.out x (by omega)))
        have CE := hide (everyGood_any nC ⟨w.heap.size, 0, none⟩ wr n5 P (fun wx x y hb hx hy hxy => CG.out wx (B1.out.trans (hb.mono B1.out.size)) w.heap.size (((BI.out.trans (hb.mono BI.out.size)).block w.heap.size (Array.getElem?_eq_some_iff.1 G0.out).1).trans G0.out) x y hx hy hxy (P x y) (HP.out x y)) bw HBW.out)
        go_wp2_with fail
        refine CE.out.mono ?_
        rintro e w2 ⟨rfl, hb2⟩
        have B2 := hide (B1.out.trans (hb2.mono B1.out.size))
        clear hb2
        go_wp2
        go_ret
        exact ⟨by rw [HE.out]; rfl, B2.out⟩
end Go.Proofs.Ytfjbiihiaoobhaj.L12
