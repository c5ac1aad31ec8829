/-
  Cuts; contract: impl.IsCut.
-/
import Derived.Test.YtkfnejiiancmhahL11Closed
namespace Go.Proofs.Ytkfnejiiancmhah.L11
open Go.RowKit L1 Own
set_option linter.unusedVariables false

/-- The numbers of a list, by nodes. -/
def uI (us : List Int) : Int → Int := fun x => us.getD x.toNat 0
/-- A list may be a cut. -/
def CutOk (N : Int) (l : List Ev) (us : List Int) : Prop := (GoodV N l ∧ (us.length : Int) = N) ∧ ∀ i, i < us.length → 0 ≤ us.getD i 0 ∧ us.getD i 0 ≤ cnt l (i : Int) l.length
theorem cutOk_okC {N : Int} {l : List Ev} {us : List Int} (h : CutOk N l us) : OkC us := by
  obtain ⟨⟨h1, h2⟩, h3⟩ := h
  have h4 := h1.1
  have h5 := h1.2.1
  refine ⟨by omega, by omega, fun j hj => ?_⟩
  have h6 := h3 j hj
  have h7 := cnt_le l (j : Int) l.length
  have h8 := h1.2.2.1
  omega
theorem cutOk_iff {N : Int} {l : List Ev} {us : List Int} (h1 : GoodV N l) (h2 : (us.length : Int) = N) : CutOk N l us ↔ OkC us ∧ ∀ i, i < 5 → fnL us i ≤ cntE l l.length i := by
  constructor
  · intro h
    refine ⟨cutOk_okC h, fun i _ => ?_⟩
    by_cases hi : i < us.length
    · exact (h.2 i hi).2
    · have : fnL us i = 0 := by unfold fnL; rw [List.getD, List.getElem?_eq_none (by omega)]; rfl
      rw [this]; exact cnt_nn l _ _
  · rintro ⟨h3, h4⟩
    refine ⟨⟨h1, h2⟩, fun i hi => ⟨(h3.2.2 i hi).1, h4 i (by have := h1.2.1; omega)⟩⟩
theorem fnL_uI (us : List Int) (i : Nat) : fnL us i = uI us (i : Int) := by unfold fnL uI; rw [Int.toNat_natCast]
theorem uI_nn {N : Int} {l : List Ev} {us : List Int} (h : CutOk N l us) (i : Nat) (hi : i < 5) : 0 ≤ uI us (i : Int) := by
  rw [← fnL_uI]
  unfold fnL
  by_cases h2 : i < us.length
  · exact (h.2 i h2).1
  · rw [List.getD, List.getElem?_eq_none (by omega)]; exact Int.le_refl _
set_option maxRecDepth 100000 in
set_option maxHeartbeats 4000000 in
theorem isCut_any (N : Int) (a u : Option Addr) (l : List (Int × Int)) (us : List Int) (n k cap ucap : Nat) (w : World) (hn : l.length = n) (hk : us.length = k) (hs : Sl2 w a l) (hu : Sl w u us) (hn2 : n ≤ 1048576) (hk2 : k ≤ 1048576) (c r : Bool) (hc : c = true ↔ CutOk N l us) (hr : r = true ↔ CutOk N l us ∧ ClS l (uI us)) :
    Calls Try.prog 31 #[.int .i64 N, .slice a n cap, .slice u k ucap] w fun e w' => e = .returned (.tuple #[.bool r, .bool c]) ∧ Below w.heap.size w w' := by
  have hrc : c = false → r = false := fun e => by
    subst e
    cases r with
    | false => rfl
    | true => exact absurd (hc.2 (hr.1 rfl).1) (by simp)
  by_cases hg : GoodV N l
  case neg =>
    have CG := hide (fun w hs => goodEvents_any N a l n cap w hn hs hn2 false (by simp [hg]))
    obtain rfl : c = false := by
      cases c with
      | false => rfl
      | true => exact absurd (hc.1 rfl) (fun h => hg h.1.1)
    obtain rfl := hrc rfl
    have HS := hide hs
    clear hg hc hr hrc hs hu hn hk
    go_enter Try.func31, Try.ntmps31
    go_wp2_with fail
    refine (CG.out _ HS.out).mono ?_
    rintro e w1 ⟨rfl, hb1⟩
    have B1 := hide hb1
    clear hb1
    go_wp2
    go_ret2
    exact ⟨rfl, B1.out⟩
  have CG := hide (fun w hs => goodEvents_any N a l n cap w hn hs hn2 true (by simp [hg]))
  by_cases hkN : (k : Int) = N
  case neg =>
    obtain rfl : c = false := by
      cases c with
      | false => rfl
      | true => exact absurd (hc.1 rfl) (fun h => hkN (by rw [← hk]; exact h.1.2))
    obtain rfl := hrc rfl
    have hkb : ((k : Int) != N) = true := by simp [hkN]
    have HS := hide hs
    clear hg hc hr hrc hs hu hn hk hkN
    go_enter Try.func31, Try.ntmps31
    go_wp2_with fail
    refine (CG.out _ HS.out).mono ?_
    rintro e w1 ⟨rfl, hb1⟩
    have B1 := hide hb1
    clear hb1
    go_wp2
    go_ret2
    exact ⟨rfl, B1.out⟩
  have hkb : ((k : Int) != N) = false := by simp [hkN]
  have hiff := cutOk_iff (us := us) hg (by rw [hk]; exact hkN)
  obtain ⟨bo, hbo⟩ : ∃ bo : Bool, bo = true ↔ OkC us := by
    by_cases h : OkC us
    · exact ⟨true, by simp [h]⟩
    · exact ⟨false, by simp [h]⟩
  obtain ⟨X, hX⟩ : ∃ X : Nat → Int, X = if bo then fnL us else fun _ => 0 := ⟨_, rfl⟩
  have CR := hide (fun w hs => readClock_any u us k ucap w hk hs hk2 bo hbo X hX)
  cases bo with
  | false =>
    obtain rfl : c = false := by
      cases c with
      | false => rfl
      | true => exact absurd (hc.1 rfl) (fun h => absurd (hbo.2 (hiff.1 h).1) (by simp))
    obtain rfl := hrc rfl
    have HS := hide hs
    have HU := hide hu
    clear hg hc hr hrc hs hu hn hk hkN hiff hbo hX
    go_enter Try.func31, Try.ntmps31
    go_wp2_with fail
    refine (CG.out _ HS.out).mono ?_
    rintro e w1 ⟨rfl, hb1⟩
    have B1 := hide hb1
    clear hb1
    go_wp2_with fail
    refine (CR.out _ (HU.out.below B1.out)).mono ?_
    rintro e w2 ⟨rfl, hb2⟩
    have B2 := hide (B1.out.trans (hb2.mono B1.out.size))
    clear hb2
    go_upto_region 4 with fail
    obtain ⟨V, hV⟩ : ∃ V, w2.alloc (.cells #[.int .i64 (X 0), .int .i64 (X 1), .int .i64 (X 2), .int .i64 (X 3), .int .i64 (X 4)] 59) = V := ⟨_, rfl⟩
    have HX : Hid (Clk V w.heap.size w2.heap.size X) := by rw [← hV]; exact hide (clk_new w2 _ _ rfl B2.out.size X)
    have BV : Hid (Below w.heap.size w V) := by rw [← hV]; exact hide (B2.out.alloc B2.out.size _)
    rw [hV]
    obtain ⟨cb, hcb⟩ : ∃ cb, cb = w2.heap.size := ⟨_, rfl⟩
    rw [← hcb] at HX ⊢
    clear hV hcb
    have x0 := HX.out.cell 0 (by omega)
    have x1 := HX.out.cell 1 (by omega)
    have x2 := HX.out.cell 2 (by omega)
    have x3 := HX.out.cell 3 (by omega)
    have x4 := HX.out.cell 4 (by omega)
    refine wp_region_held_drew (S := (fun wx => wx.cell? ⟨cb, 0, none⟩ = some (.int .i64 (X 0)) ∧ wx.cell? ⟨cb, 1, none⟩ = some (.int .i64 (X 1)) ∧ wx.cell? ⟨cb, 2, none⟩ = some (.int .i64 (X 2)) ∧ wx.cell? ⟨cb, 3, none⟩ = some (.int .i64 (X 3)) ∧ wx.cell? ⟨cb, 4, none⟩ = some (.int .i64 (X 4)) ∧ Below V.heap.size V wx)) (by kernel_rfl) ⟨x0, x1, x2, x3, x4, (Below.refl _ _).drew⟩ (fun hHeld => ?_)
    refine wpAnyH_take (i := 0) (v := ?v1) rfl (by kernel_rfl) (by kernel_rfl) (by kernel_rfl) (fun _ _ _ h => h) (Or.inl ⟨by rfl, ?y1⟩) (by assumption) ?r1
    case y1 => (intro w hSw; (try dsimp only at hSw); go_simp; try (with_reducible rfl))
    simp only [List.getElem_toArray, List.getElem_cons_zero, Act.put, List.setIfInBounds_toArray, List.set_cons_zero, List.set_cons_succ]
    refine wpAnyH_take (i := 1) (v := ?v2) rfl (by kernel_rfl) (by kernel_rfl) (by kernel_rfl) (fun _ _ _ h => h) (Or.inl ⟨by rfl, ?y2⟩) (by assumption) ?r2
    case y2 => (intro w hSw; (try dsimp only at hSw); go_simp; try (with_reducible rfl))
    simp only [List.getElem_toArray, List.getElem_cons_succ, List.getElem_cons_zero, Act.put, List.setIfInBounds_toArray, List.set_cons_zero, List.set_cons_succ]
    refine wpAnyH_take (i := 2) (v := ?v3) rfl (by kernel_rfl) (by kernel_rfl) (by kernel_rfl) (fun _ _ _ h => h) (Or.inl ⟨by rfl, ?y3⟩) (by assumption) ?r3
    case y3 => (intro w hSw; (try dsimp only at hSw); go_simp; try (with_reducible rfl))
    simp only [List.getElem_toArray, List.getElem_cons_succ, List.getElem_cons_zero, Act.put, List.setIfInBounds_toArray, List.set_cons_zero, List.set_cons_succ]
    refine wpAnyH_take (i := 3) (v := undef) rfl (by kernel_rfl) (by kernel_rfl) (by kernel_rfl) (fun _ _ _ h => h) (Or.inr ⟨by rfl, rfl⟩) (by assumption) ?_
    simp only [List.getElem_toArray, List.getElem_cons_succ, List.getElem_cons_zero, Act.put, List.setIfInBounds_toArray, List.set_cons_zero, List.set_cons_succ]
    refine wpAnyH_take (i := 4) (v := undef) rfl (by kernel_rfl) (by kernel_rfl) (by kernel_rfl) (fun _ _ _ h => h) (Or.inr ⟨by rfl, rfl⟩) (by assumption) ?_
    simp only [List.getElem_toArray, List.getElem_cons_succ, List.getElem_cons_zero, Act.put, List.setIfInBounds_toArray, List.set_cons_zero, List.set_cons_succ]
    refine wpAnyH_take (i := 5) (v := undef) rfl (by kernel_rfl) (by kernel_rfl) (by kernel_rfl) (fun _ _ _ h => h) (Or.inr ⟨by rfl, rfl⟩) (by assumption) ?_
    simp only [List.getElem_toArray, List.getElem_cons_succ, List.getElem_cons_zero, Act.put, List.setIfInBounds_toArray, List.set_cons_zero, List.set_cons_succ]
    refine wpAnyH_take (i := 6) (v := undef) rfl (by kernel_rfl) (by kernel_rfl) (by kernel_rfl) (fun _ _ _ h => h) (Or.inr ⟨by rfl, rfl⟩) (by assumption) ?_
    simp only [List.getElem_toArray, List.getElem_cons_succ, List.getElem_cons_zero, Act.put, List.setIfInBounds_toArray, List.set_cons_zero, List.set_cons_succ]
    refine wpAnyH_take (i := 7) (v := undef) rfl (by kernel_rfl) (by kernel_rfl) (by kernel_rfl) (fun _ _ _ h => h) (Or.inr ⟨by rfl, rfl⟩) (by assumption) ?_
    simp only [List.getElem_toArray, List.getElem_cons_succ, List.getElem_cons_zero, Act.put, List.setIfInBounds_toArray, List.set_cons_zero, List.set_cons_succ]
    refine wpAnyH_take (i := 8) (v := ?v9) rfl (by kernel_rfl) (by kernel_rfl) (by kernel_rfl) (fun _ _ _ h => h) (Or.inl ⟨by rfl, ?y9⟩) (by assumption) ?r9
    case y9 => (intro w hSw; (try dsimp only at hSw); go_simp; try (with_reducible rfl))
    simp only [List.getElem_toArray, List.getElem_cons_succ, List.getElem_cons_zero, Act.put, List.setIfInBounds_toArray, List.set_cons_zero, List.set_cons_succ]
    refine wpAnyH_done (by kernel_rfl) ?_ _
    have B3 := hide (BV.out.trans (hHeld.2.2.2.2.2.mono BV.out.size))
    clear hHeld
    go_wp2
    go_ret2
    exact ⟨rfl, B3.out⟩
  | true =>
    have hXe : X = fnL us := by rw [hX]; rfl
    obtain ⟨am, ham⟩ : ∃ am : Bool, am = true ↔ ∀ i, i < 5 → X i ≤ cntE l n i := by
      by_cases h : ∀ i, i < 5 → X i ≤ cntE l n i
      · exact ⟨true, by simpa using h⟩
      · exact ⟨false, by simpa using h⟩
    have CA := hide (fun w => isAtMost_any X (cntE l n) w am ham)
    have CC := hide (fun w hs => countEvents_any N a l n cap w hn hs hg)
    have hiff2 : CutOk N l us ↔ am = true := by
      rw [hiff, ham, hXe, ← hn]
      exact ⟨fun h => h.2, fun h => ⟨hbo.1 rfl, h⟩⟩
    cases am with
    | false =>
      obtain rfl : c = false := by
        cases c with
        | false => rfl
        | true => exact absurd (hc.1 rfl) (fun h => absurd (hiff2.1 h) (by simp))
      obtain rfl := hrc rfl
      have HS := hide hs
      have HU := hide hu
      clear hg hc hr hrc hs hu hn hk hkN hiff hiff2 hbo hX hXe ham
      go_enter Try.func31, Try.ntmps31
      go_wp2_with fail
      refine (CG.out _ HS.out).mono ?_
      rintro e w1 ⟨rfl, hb1⟩
      have B1 := hide hb1
      clear hb1
      go_wp2_with fail
      refine (CR.out _ (HU.out.below B1.out)).mono ?_
      rintro e w2 ⟨rfl, hb2⟩
      have B2 := hide (B1.out.trans (hb2.mono B1.out.size))
      clear hb2
      go_upto_region 4 with fail
      obtain ⟨V, hV⟩ : ∃ V, w2.alloc (.cells #[.int .i64 (X 0), .int .i64 (X 1), .int .i64 (X 2), .int .i64 (X 3), .int .i64 (X 4)] 59) = V := ⟨_, rfl⟩
      have HX : Hid (Clk V w.heap.size w2.heap.size X) := by rw [← hV]; exact hide (clk_new w2 _ _ rfl B2.out.size X)
      have BV : Hid (Below w.heap.size w V) := by rw [← hV]; exact hide (B2.out.alloc B2.out.size _)
      rw [hV]
      obtain ⟨cb, hcb⟩ : ∃ cb, cb = w2.heap.size := ⟨_, rfl⟩
      rw [← hcb] at HX ⊢
      clear hV hcb
      have x0 := HX.out.cell 0 (by omega)
      have x1 := HX.out.cell 1 (by omega)
      have x2 := HX.out.cell 2 (by omega)
      have x3 := HX.out.cell 3 (by omega)
      have x4 := HX.out.cell 4 (by omega)
      have CC2 : Hid (∀ wx, Below V.heap.size V wx → Calls Try.prog 51 #[.slice a n cap] wx fun e w' => e = .returned (cv (cntE l n)) ∧ Below wx.heap.size wx w') := hide (fun wx hb => CC.out wx (HS.out.below (BV.out.trans (hb.mono BV.out.size))))
      refine wp_region_held_drew (S := (fun wx => wx.cell? ⟨cb, 0, none⟩ = some (.int .i64 (X 0)) ∧ wx.cell? ⟨cb, 1, none⟩ = some (.int .i64 (X 1)) ∧ wx.cell? ⟨cb, 2, none⟩ = some (.int .i64 (X 2)) ∧ wx.cell? ⟨cb, 3, none⟩ = some (.int .i64 (X 3)) ∧ wx.cell? ⟨cb, 4, none⟩ = some (.int .i64 (X 4)) ∧ Below V.heap.size V wx)) (by kernel_rfl) ⟨x0, x1, x2, x3, x4, (Below.refl _ _).drew⟩ (fun hHeld => ?_)
      refine wpAnyH_take (i := 0) (v := ?v10) rfl (by kernel_rfl) (by kernel_rfl) (by kernel_rfl) (fun _ _ _ h => h) (Or.inl ⟨by rfl, ?y10⟩) (by assumption) ?r10
      case y10 => (intro w hSw; (try dsimp only at hSw); go_simp; try (with_reducible rfl))
      simp only [List.getElem_toArray, List.getElem_cons_zero, Act.put, List.setIfInBounds_toArray, List.set_cons_zero, List.set_cons_succ]
      refine wpAnyH_take (i := 1) (v := ?v11) rfl (by kernel_rfl) (by kernel_rfl) (by kernel_rfl) (fun _ _ _ h => h) (Or.inl ⟨by rfl, ?y11⟩) (by assumption) ?r11
      case y11 => (intro w hSw; (try dsimp only at hSw); go_simp; try (with_reducible rfl))
      simp only [List.getElem_toArray, List.getElem_cons_succ, List.getElem_cons_zero, Act.put, List.setIfInBounds_toArray, List.set_cons_zero, List.set_cons_succ]
      refine wpAnyH_take (i := 2) (v := ?v12) rfl (by kernel_rfl) (by kernel_rfl) (by kernel_rfl) (fun _ _ _ h => h) (Or.inl ⟨by rfl, ?y12⟩) (by assumption) ?r12
      case y12 => (intro w hSw; (try dsimp only at hSw); go_simp; try (with_reducible rfl))
      simp only [List.getElem_toArray, List.getElem_cons_succ, List.getElem_cons_zero, Act.put, List.setIfInBounds_toArray, List.set_cons_zero, List.set_cons_succ]
      refine wpAnyH_take (i := 3) (v := ?v13) rfl (by kernel_rfl) (by kernel_rfl) (by kernel_rfl) (fun _ _ _ h => h) (Or.inl ⟨by rfl, ?y13⟩) (by assumption) ?r13
      case y13 => (intro w hSw; (try dsimp only at hSw); go_simp; try (with_reducible rfl))
      simp only [List.getElem_toArray, List.getElem_cons_succ, List.getElem_cons_zero, Act.put, List.setIfInBounds_toArray, List.set_cons_zero, List.set_cons_succ]
      refine wpAnyH_take (i := 4) (v := ?v14) rfl (by kernel_rfl) (by kernel_rfl) (by kernel_rfl) (fun _ _ _ h => h) (Or.inl ⟨by rfl, ?y14⟩) (by assumption) ?r14
      case y14 => (intro w hSw; (try dsimp only at hSw); go_simp; try (with_reducible rfl))
      simp only [List.getElem_toArray, List.getElem_cons_succ, List.getElem_cons_zero, Act.put, List.setIfInBounds_toArray, List.set_cons_zero, List.set_cons_succ]
      refine wpAnyH_ready (rs := [5]) (by kernel_rfl) (by simp) ?_
      refine AllReadyH.cons rfl (fun K hK => ?_) AllReadyH.nil
      simp only [List.getElem_toArray, List.getElem_cons_succ, List.getElem_cons_zero]
      go_simp
      go_at_call 51
      refine (CC2.out _ hHeld.2.2.2.2.2).mono ?_
      rintro e w3 ⟨rfl, hb1⟩
      dsimp only
      refine hK.out _ _ ?_ (fun hHeld => ?_)
      · exact ⟨(hb1.cell (p := ⟨cb, 0, none⟩) (blk_lt hHeld.1)).trans hHeld.1, (hb1.cell (p := ⟨cb, 1, none⟩) (blk_lt hHeld.2.1)).trans hHeld.2.1, (hb1.cell (p := ⟨cb, 2, none⟩) (blk_lt hHeld.2.2.1)).trans hHeld.2.2.1, (hb1.cell (p := ⟨cb, 3, none⟩) (blk_lt hHeld.2.2.2.1)).trans hHeld.2.2.2.1, (hb1.cell (p := ⟨cb, 4, none⟩) (blk_lt hHeld.2.2.2.2.1)).trans hHeld.2.2.2.2.1, hHeld.2.2.2.2.2.trans (hb1.mono hHeld.2.2.2.2.2.size)⟩
      clear hK K
      try simp only [Act.put, List.setIfInBounds_toArray, List.set_cons_zero, List.set_cons_succ]
      refine wpAnyH_ready (rs := [6]) (by kernel_rfl) (by simp) ?_
      refine AllReadyH.cons rfl (fun K hK => ?_) AllReadyH.nil
      simp only [List.getElem_toArray, List.getElem_cons_succ, List.getElem_cons_zero]
      go_simp
      go_at_call 50
      refine (CA.out _).mono ?_
      rintro e w3 ⟨rfl, hb1⟩
      dsimp only
      refine hK.out _ _ ?_ (fun hHeld => ?_)
      · exact ⟨(hb1.cell (p := ⟨cb, 0, none⟩) (blk_lt hHeld.1)).trans hHeld.1, (hb1.cell (p := ⟨cb, 1, none⟩) (blk_lt hHeld.2.1)).trans hHeld.2.1, (hb1.cell (p := ⟨cb, 2, none⟩) (blk_lt hHeld.2.2.1)).trans hHeld.2.2.1, (hb1.cell (p := ⟨cb, 3, none⟩) (blk_lt hHeld.2.2.2.1)).trans hHeld.2.2.2.1, (hb1.cell (p := ⟨cb, 4, none⟩) (blk_lt hHeld.2.2.2.2.1)).trans hHeld.2.2.2.2.1, hHeld.2.2.2.2.2.trans (hb1.mono hHeld.2.2.2.2.2.size)⟩
      clear hK K
      try simp only [Act.put, List.setIfInBounds_toArray, List.set_cons_zero, List.set_cons_succ]
      refine wpAnyH_take (i := 7) (v := ?v15) rfl (by kernel_rfl) (by kernel_rfl) (by kernel_rfl) (fun _ _ _ h => h) (Or.inl ⟨by rfl, ?y15⟩) (by assumption) ?r15
      case y15 => (intro w hSw; (try dsimp only at hSw); go_simp; try (with_reducible rfl))
      simp only [List.getElem_toArray, List.getElem_cons_succ, List.getElem_cons_zero, Act.put, List.setIfInBounds_toArray, List.set_cons_zero, List.set_cons_succ]
      refine wpAnyH_take (i := 8) (v := ?v16) rfl (by kernel_rfl) (by kernel_rfl) (by kernel_rfl) (fun _ _ _ h => h) (Or.inl ⟨by rfl, ?y16⟩) (by assumption) ?r16
      case y16 => (intro w hSw; (try dsimp only at hSw); go_simp; try (with_reducible rfl))
      simp only [List.getElem_toArray, List.getElem_cons_succ, List.getElem_cons_zero, Act.put, List.setIfInBounds_toArray, List.set_cons_zero, List.set_cons_succ]
      refine wpAnyH_done (by kernel_rfl) ?_ _
      have B3 := hide (BV.out.trans (hHeld.2.2.2.2.2.mono BV.out.size))
      clear hHeld
      go_wp2
      go_ret2
      exact ⟨rfl, B3.out⟩
    | true =>
      have hok : CutOk N l us := hiff2.2 rfl
      obtain rfl : c = true := hc.2 hok
      have CK := hide (fun w hs => isClosed_any N a l n cap X w hn hs hg r (by
        rw [hr]
        refine Iff.trans ⟨fun h => h.2, fun h => ⟨hok, h⟩⟩ ?_
        rw [← cl_iff hg (uI us) (uI_nn hok)]
        unfold ClI
        rw [hn]
        constructor
        · intro h q hq hc2 i hi
          have e : ((nd l q).toNat : Int) = nd l q := by have := (hg.2.2.2 q (by omega)).1; omega
          have := h q hq (by rw [← e, ← fnL_uI, ← hXe, e]; exact hc2) i hi
          rw [← fnL_uI, ← hXe] at this
          exact this
        · intro h q hq hc2 i hi
          have e : ((nd l q).toNat : Int) = nd l q := by have := (hg.2.2.2 q (by omega)).1; omega
          rw [← fnL_uI, ← hXe]
          refine h q hq ?_ i hi
          rw [← e, ← fnL_uI, ← hXe, e] at hc2
          exact hc2))
      have HS := hide hs
      have HU := hide hu
      clear hg hc hr hrc hs hu hn hk hkN hiff hiff2 hbo hX hXe ham hok
      go_enter Try.func31, Try.ntmps31
      go_wp2_with fail
      refine (CG.out _ HS.out).mono ?_
      rintro e w1 ⟨rfl, hb1⟩
      have B1 := hide hb1
      clear hb1
      go_wp2_with fail
      refine (CR.out _ (HU.out.below B1.out)).mono ?_
      rintro e w2 ⟨rfl, hb2⟩
      have B2 := hide (B1.out.trans (hb2.mono B1.out.size))
      clear hb2
      go_upto_region 4 with fail
      obtain ⟨V, hV⟩ : ∃ V, w2.alloc (.cells #[.int .i64 (X 0), .int .i64 (X 1), .int .i64 (X 2), .int .i64 (X 3), .int .i64 (X 4)] 59) = V := ⟨_, rfl⟩
      have HX : Hid (Clk V w.heap.size w2.heap.size X) := by rw [← hV]; exact hide (clk_new w2 _ _ rfl B2.out.size X)
      have BV : Hid (Below w.heap.size w V) := by rw [← hV]; exact hide (B2.out.alloc B2.out.size _)
      rw [hV]
      obtain ⟨cb, hcb⟩ : ∃ cb, cb = w2.heap.size := ⟨_, rfl⟩
      rw [← hcb] at HX ⊢
      clear hV hcb
      have x0 := HX.out.cell 0 (by omega)
      have x1 := HX.out.cell 1 (by omega)
      have x2 := HX.out.cell 2 (by omega)
      have x3 := HX.out.cell 3 (by omega)
      have x4 := HX.out.cell 4 (by omega)
      have CC2 : Hid (∀ wx, Below V.heap.size V wx → Calls Try.prog 51 #[.slice a n cap] wx fun e w' => e = .returned (cv (cntE l n)) ∧ Below wx.heap.size wx w') := hide (fun wx hb => CC.out wx (HS.out.below (BV.out.trans (hb.mono BV.out.size))))
      refine wp_region_held_drew (S := (fun wx => wx.cell? ⟨cb, 0, none⟩ = some (.int .i64 (X 0)) ∧ wx.cell? ⟨cb, 1, none⟩ = some (.int .i64 (X 1)) ∧ wx.cell? ⟨cb, 2, none⟩ = some (.int .i64 (X 2)) ∧ wx.cell? ⟨cb, 3, none⟩ = some (.int .i64 (X 3)) ∧ wx.cell? ⟨cb, 4, none⟩ = some (.int .i64 (X 4)) ∧ Below V.heap.size V wx)) (by kernel_rfl) ⟨x0, x1, x2, x3, x4, (Below.refl _ _).drew⟩ (fun hHeld => ?_)
      refine wpAnyH_take (i := 0) (v := ?v17) rfl (by kernel_rfl) (by kernel_rfl) (by kernel_rfl) (fun _ _ _ h => h) (Or.inl ⟨by rfl, ?y17⟩) (by assumption) ?r17
      case y17 => (intro w hSw; (try dsimp only at hSw); go_simp; try (with_reducible rfl))
      simp only [List.getElem_toArray, List.getElem_cons_zero, Act.put, List.setIfInBounds_toArray, List.set_cons_zero, List.set_cons_succ]
      refine wpAnyH_take (i := 1) (v := ?v18) rfl (by kernel_rfl) (by kernel_rfl) (by kernel_rfl) (fun _ _ _ h => h) (Or.inl ⟨by rfl, ?y18⟩) (by assumption) ?r18
      case y18 => (intro w hSw; (try dsimp only at hSw); go_simp; try (with_reducible rfl))
      simp only [List.getElem_toArray, List.getElem_cons_succ, List.getElem_cons_zero, Act.put, List.setIfInBounds_toArray, List.set_cons_zero, List.set_cons_succ]
      refine wpAnyH_take (i := 2) (v := ?v19) rfl (by kernel_rfl) (by kernel_rfl) (by kernel_rfl) (fun _ _ _ h => h) (Or.inl ⟨by rfl, ?y19⟩) (by assumption) ?r19
      case y19 => (intro w hSw; (try dsimp only at hSw); go_simp; try (with_reducible rfl))
      simp only [List.getElem_toArray, List.getElem_cons_succ, List.getElem_cons_zero, Act.put, List.setIfInBounds_toArray, List.set_cons_zero, List.set_cons_succ]
      refine wpAnyH_take (i := 3) (v := ?v20) rfl (by kernel_rfl) (by kernel_rfl) (by kernel_rfl) (fun _ _ _ h => h) (Or.inl ⟨by rfl, ?y20⟩) (by assumption) ?r20
      case y20 => (intro w hSw; (try dsimp only at hSw); go_simp; try (with_reducible rfl))
      simp only [List.getElem_toArray, List.getElem_cons_succ, List.getElem_cons_zero, Act.put, List.setIfInBounds_toArray, List.set_cons_zero, List.set_cons_succ]
      refine wpAnyH_take (i := 4) (v := ?v21) rfl (by kernel_rfl) (by kernel_rfl) (by kernel_rfl) (fun _ _ _ h => h) (Or.inl ⟨by rfl, ?y21⟩) (by assumption) ?r21
      case y21 => (intro w hSw; (try dsimp only at hSw); go_simp; try (with_reducible rfl))
      simp only [List.getElem_toArray, List.getElem_cons_succ, List.getElem_cons_zero, Act.put, List.setIfInBounds_toArray, List.set_cons_zero, List.set_cons_succ]
      refine wpAnyH_ready (rs := [5]) (by kernel_rfl) (by simp) ?_
      refine AllReadyH.cons rfl (fun K hK => ?_) AllReadyH.nil
      simp only [List.getElem_toArray, List.getElem_cons_succ, List.getElem_cons_zero]
      go_simp
      go_at_call 51
      refine (CC2.out _ hHeld.2.2.2.2.2).mono ?_
      rintro e w3 ⟨rfl, hb1⟩
      dsimp only
      refine hK.out _ _ ?_ (fun hHeld => ?_)
      · exact ⟨(hb1.cell (p := ⟨cb, 0, none⟩) (blk_lt hHeld.1)).trans hHeld.1, (hb1.cell (p := ⟨cb, 1, none⟩) (blk_lt hHeld.2.1)).trans hHeld.2.1, (hb1.cell (p := ⟨cb, 2, none⟩) (blk_lt hHeld.2.2.1)).trans hHeld.2.2.1, (hb1.cell (p := ⟨cb, 3, none⟩) (blk_lt hHeld.2.2.2.1)).trans hHeld.2.2.2.1, (hb1.cell (p := ⟨cb, 4, none⟩) (blk_lt hHeld.2.2.2.2.1)).trans hHeld.2.2.2.2.1, hHeld.2.2.2.2.2.trans (hb1.mono hHeld.2.2.2.2.2.size)⟩
      clear hK K
      try simp only [Act.put, List.setIfInBounds_toArray, List.set_cons_zero, List.set_cons_succ]
      refine wpAnyH_ready (rs := [6]) (by kernel_rfl) (by simp) ?_
      refine AllReadyH.cons rfl (fun K hK => ?_) AllReadyH.nil
      simp only [List.getElem_toArray, List.getElem_cons_succ, List.getElem_cons_zero]
      go_simp
      go_at_call 50
      refine (CA.out _).mono ?_
      rintro e w3 ⟨rfl, hb1⟩
      dsimp only
      refine hK.out _ _ ?_ (fun hHeld => ?_)
      · exact ⟨(hb1.cell (p := ⟨cb, 0, none⟩) (blk_lt hHeld.1)).trans hHeld.1, (hb1.cell (p := ⟨cb, 1, none⟩) (blk_lt hHeld.2.1)).trans hHeld.2.1, (hb1.cell (p := ⟨cb, 2, none⟩) (blk_lt hHeld.2.2.1)).trans hHeld.2.2.1, (hb1.cell (p := ⟨cb, 3, none⟩) (blk_lt hHeld.2.2.2.1)).trans hHeld.2.2.2.1, (hb1.cell (p := ⟨cb, 4, none⟩) (blk_lt hHeld.2.2.2.2.1)).trans hHeld.2.2.2.2.1, hHeld.2.2.2.2.2.trans (hb1.mono hHeld.2.2.2.2.2.size)⟩
      clear hK K
      try simp only [Act.put, List.setIfInBounds_toArray, List.set_cons_zero, List.set_cons_succ]
      refine wpAnyH_take (i := 7) (v := ?v22) rfl (by kernel_rfl) (by kernel_rfl) (by kernel_rfl) (fun _ _ _ h => h) (Or.inl ⟨by rfl, ?y22⟩) (by assumption) ?r22
      case y22 => (intro w hSw; (try dsimp only at hSw); go_simp; try (with_reducible rfl))
      simp only [List.getElem_toArray, List.getElem_cons_succ, List.getElem_cons_zero, Act.put, List.setIfInBounds_toArray, List.set_cons_zero, List.set_cons_succ]
      refine wpAnyH_take (i := 8) (v := ?v23) rfl (by kernel_rfl) (by kernel_rfl) (by kernel_rfl) (fun _ _ _ h => h) (Or.inl ⟨by rfl, ?y23⟩) (by assumption) ?r23
      case y23 => (intro w hSw; (try dsimp only at hSw); go_simp; try (with_reducible rfl))
      simp only [List.getElem_toArray, List.getElem_cons_succ, List.getElem_cons_zero, Act.put, List.setIfInBounds_toArray, List.set_cons_zero, List.set_cons_succ]
      refine wpAnyH_done (by kernel_rfl) ?_ _
      have B3 := hide (BV.out.trans (hHeld.2.2.2.2.2.mono BV.out.size))
      obtain ⟨y0, y1, y2, y3, y4, _⟩ := hHeld
      go_wp2_with fail
      refine (CK.out _ (HS.out.below B3.out)).mono ?_
      rintro e w5 ⟨rfl, hb5⟩
      have B5 := hide (B3.out.trans (hb5.mono B3.out.size))
      clear hb5
      go_wp2
      go_ret2
      exact ⟨rfl, B5.out⟩
end Go.Proofs.Ytkfnejiiancmhah.L11
