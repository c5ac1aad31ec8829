/-
  Contract: impl.goodWritten.
-/
import Derived.Test.YthmekhhfihjclagL10GTx
import Derived.Test.YthmekhhfihjclagEqI
import Derived.Deep.RegionHeld3
import Derived.Deep.DeepCutAuto
namespace Go.Proofs.Ythmekhhfihjclag.L10
open Go.RowKit L1 Own Str Nte Tri
set_option linter.unusedVariables false

theorem keepW8 {wa wb : World} {B0 B1 B2 B3 B4 B5 B6 B7 O0 O1 O2 O3 O4 O5 O6 O7 : Nat} {v0 v1 v2 v3 v4 v5 v6 v7 : Value} (h : wa.cell? ⟨B0, O0, none⟩ = some v0 ∧ wa.cell? ⟨B1, O1, none⟩ = some v1 ∧ wa.cell? ⟨B2, O2, none⟩ = some v2 ∧ wa.cell? ⟨B3, O3, none⟩ = some v3 ∧ wa.cell? ⟨B4, O4, none⟩ = some v4 ∧ wa.cell? ⟨B5, O5, none⟩ = some v5 ∧ wa.cell? ⟨B6, O6, none⟩ = some v6 ∧ wa.cell? ⟨B7, O7, none⟩ = some v7) (hb : Below wa.heap.size wa wb) : wb.cell? ⟨B0, O0, none⟩ = some v0 ∧ wb.cell? ⟨B1, O1, none⟩ = some v1 ∧ wb.cell? ⟨B2, O2, none⟩ = some v2 ∧ wb.cell? ⟨B3, O3, none⟩ = some v3 ∧ wb.cell? ⟨B4, O4, none⟩ = some v4 ∧ wb.cell? ⟨B5, O5, none⟩ = some v5 ∧ wb.cell? ⟨B6, O6, none⟩ = some v6 ∧ wb.cell? ⟨B7, O7, none⟩ = some v7 :=
  ⟨(hb.cell (p := ⟨B0, O0, none⟩) (blk_lt h.1)).trans h.1, (hb.cell (p := ⟨B1, O1, none⟩) (blk_lt h.2.1)).trans h.2.1, (hb.cell (p := ⟨B2, O2, none⟩) (blk_lt h.2.2.1)).trans h.2.2.1, (hb.cell (p := ⟨B3, O3, none⟩) (blk_lt h.2.2.2.1)).trans h.2.2.2.1, (hb.cell (p := ⟨B4, O4, none⟩) (blk_lt h.2.2.2.2.1)).trans h.2.2.2.2.1, (hb.cell (p := ⟨B5, O5, none⟩) (blk_lt h.2.2.2.2.2.1)).trans h.2.2.2.2.2.1, (hb.cell (p := ⟨B6, O6, none⟩) (blk_lt h.2.2.2.2.2.2.1)).trans h.2.2.2.2.2.2.1, (hb.cell (p := ⟨B7, O7, none⟩) (blk_lt h.2.2.2.2.2.2.2)).trans h.2.2.2.2.2.2.2⟩
theorem keepW9 {wa wb : World} {B0 B1 B2 B3 B4 B5 B6 B7 B8 O0 O1 O2 O3 O4 O5 O6 O7 O8 : Nat} {v0 v1 v2 v3 v4 v5 v6 v7 v8 : Value} (h : wa.cell? ⟨B0, O0, none⟩ = some v0 ∧ wa.cell? ⟨B1, O1, none⟩ = some v1 ∧ wa.cell? ⟨B2, O2, none⟩ = some v2 ∧ wa.cell? ⟨B3, O3, none⟩ = some v3 ∧ wa.cell? ⟨B4, O4, none⟩ = some v4 ∧ wa.cell? ⟨B5, O5, none⟩ = some v5 ∧ wa.cell? ⟨B6, O6, none⟩ = some v6 ∧ wa.cell? ⟨B7, O7, none⟩ = some v7 ∧ wa.cell? ⟨B8, O8, none⟩ = some v8) (hb : Below wa.heap.size wa wb) : wb.cell? ⟨B0, O0, none⟩ = some v0 ∧ wb.cell? ⟨B1, O1, none⟩ = some v1 ∧ wb.cell? ⟨B2, O2, none⟩ = some v2 ∧ wb.cell? ⟨B3, O3, none⟩ = some v3 ∧ wb.cell? ⟨B4, O4, none⟩ = some v4 ∧ wb.cell? ⟨B5, O5, none⟩ = some v5 ∧ wb.cell? ⟨B6, O6, none⟩ = some v6 ∧ wb.cell? ⟨B7, O7, none⟩ = some v7 ∧ wb.cell? ⟨B8, O8, none⟩ = some v8 :=
  ⟨(hb.cell (p := ⟨B0, O0, none⟩) (blk_lt h.1)).trans h.1, (hb.cell (p := ⟨B1, O1, none⟩) (blk_lt h.2.1)).trans h.2.1, (hb.cell (p := ⟨B2, O2, none⟩) (blk_lt h.2.2.1)).trans h.2.2.1, (hb.cell (p := ⟨B3, O3, none⟩) (blk_lt h.2.2.2.1)).trans h.2.2.2.1, (hb.cell (p := ⟨B4, O4, none⟩) (blk_lt h.2.2.2.2.1)).trans h.2.2.2.2.1, (hb.cell (p := ⟨B5, O5, none⟩) (blk_lt h.2.2.2.2.2.1)).trans h.2.2.2.2.2.1, (hb.cell (p := ⟨B6, O6, none⟩) (blk_lt h.2.2.2.2.2.2.1)).trans h.2.2.2.2.2.2.1, (hb.cell (p := ⟨B7, O7, none⟩) (blk_lt h.2.2.2.2.2.2.2.1)).trans h.2.2.2.2.2.2.2.1, (hb.cell (p := ⟨B8, O8, none⟩) (blk_lt h.2.2.2.2.2.2.2.2)).trans h.2.2.2.2.2.2.2.2⟩
set_option maxRecDepth 100000 in
set_option maxHeartbeats 4000000 in
theorem goodWritten_any (aT : Option Addr) (nT cT : Nat) (aH : Option Addr) (nH cH : Nat) (aL : Option Addr) (nL cL : Nat) (aG : Option Addr) (nG cG : Nat) (aN : Option Addr) (nN cN : Nat) (m : Tm) (w : World) (hz : TlZ m nT nH nL nG nN) (hF : TlF w aT aH aL aG aN m) (hTN : nT = nN) (bb : Bool) (hbb : bb = true ↔ GoodW m) :
    Calls Try.prog 52 #[tlV aT nT cT aH nH cH aL nL cL aG nG cG aN nN cN] w fun e w' => e = .returned (.bool bb) ∧ Below w.heap.size w w' := by
  have bG : nG ≤ 1048576 := hz.bg
  have bN : nN ≤ 1048576 := hz.bn
  have HTN := hide hTN
  clear hTN
  have BX := (Below.refl w.heap.size w).alloc (Nat.le_refl _) (tlO aT nT cT aH nH cH aL nL cL aG nG cG aN nN cN)
  have g0 := blk_newO w (tlO aT nT cT aH nH cH aL nL cL aG nG cG aN nN cN)
  obtain ⟨W0, hW0⟩ : ∃ W0, W0 = w.alloc (tlO aT nT cT aH nH cH aL nL cL aG nG cG aN nN cN) := ⟨_, rfl⟩
  rw [← hW0] at BX g0
  have HW := hide hW0
  have F0 := hide (hF.below BX)
  have HB := hide BX
  have HG := hide g0
  have HBB := hide hbb
  have HZ := hide hz
  obtain ⟨k0, k1, k2, k3, k4⟩ := blk5 g0
  clear hW0 g0 hbb hz hF BX
  obtain ⟨i0, hi, hz0, hz1, hz2⟩ := info_parts info_int
  obtain ⟨w1, hmk, hown1, hg1⟩ := run_make_full (P := Try.prog) W0 W0.heap.size 23 3 i0 (.int .i64 0) 1 Try.underlying23 hi hz0 hz1 .i64 .i64 nN (by rw [hz2]; omega) (by unfold maxLen; omega) (Nat.le_refl _)
  have hb1 : Below W0.heap.size W0 w1 := (Below.refl _ _).grown hg1 (Nat.le_refl _) (fun k hk => by cases hk)
  have e1 : (madeCells (Value.int .i64 0).cells (nN * 1)).toList = (wrK nN m.lg 0).map (Value.int .i64) := by
    rw [show (Value.int .i64 0).cells = #[Value.int .i64 0] from rfl, Nat.mul_one, toList_madeCells_one]
    show _ = (List.replicate nN (0 : Int)).map (Value.int .i64)
    rw [List.map_replicate]
  rw [e1] at hown1
  have hgl := (hown1.lt W0.heap.size rfl).2
  have HGG := (Array.getElem?_eq_some_iff.1 HG.out).1
  obtain ⟨g, hg⟩ : ∃ g, g = W0.heap.size := ⟨_, rfl⟩
  have HO := hide hown1
  have HB1 := hide hb1
  have HGE := hide hg
  have k0' := (hb1.cell (p := ⟨w.heap.size, 3, none⟩) (blk_lt k3)).trans k3
  rw [← hg] at HO hmk
  clear hown1 hb1 hg1 e1 hg
  go_enter Try.func52, Try.ntmps52
  go_upto_region 1 with fail
  rw [← HW.out]
  go_wp2
  go_loopw [13] (fun i wr => ∃ k : Nat, k ≤ nG ∧ i = .int .i64 k ∧ Hid (∀ j, j < k → okW m nN j) ∧ Hid (wr.ownsRow g 3 1 (.slice (some ⟨g, 0, none⟩) nN nN) nN ((wrK nN m.lg k).map (Value.int .i64))) ∧ Hid (Below W0.heap.size W0 wr)) (fun i _ => nG - (intOf i).toNat)
  case atStart => exact ⟨0, Nat.zero_le _, rfl, fun j hj => absurd hj (Nat.not_lt_zero _), HO, HB1⟩
  case round =>
    obtain ⟨k, hk, rfl, HK, HO, HR⟩ := hrel
    by_cases hlt : k < nG
    · obtain ⟨gb, go, ea, p0, p1, p2⟩ := F0.out.g k (by rw [HZ.out.g]; exact hlt)
      subst ea
      have q0 := (HR.out.cell (p := ⟨gb, go + k * 3, none⟩) (blk_lt p0)).trans p0
      have q1 := (HR.out.cell (p := ⟨gb, go + k * 3 + 1, none⟩) (blk_lt p1)).trans p1
      have q2 := (HR.out.cell (p := ⟨gb, go + k * 3 + 2, none⟩) (blk_lt p2)).trans p2
      have hltI : (k : Int) < (nG : Int) := by omega
      obtain ⟨who, hwho⟩ : ∃ x, x = (m.lg.getD k e3).1 := ⟨_, rfl⟩
      obtain ⟨no, hno⟩ : ∃ x, x = (m.lg.getD k e3).2.1 := ⟨_, rfl⟩
      obtain ⟨t, ht⟩ : ∃ x, x = (m.lg.getD k e3).2.2 := ⟨_, rfl⟩
      rw [← hwho] at q0
      rw [← hno] at q1
      rw [← ht] at q2
      have HX : Hid (m.lg.getD k e3 = (who, no, t)) := by show _ = _; rw [hwho, hno, ht]
      obtain ⟨bk, hbk⟩ := dec_ex (isTo m (who, no, t))
      have gr := (HR.out.block w.heap.size HGG).trans HG.out
      have A1 := (Below.refl wr.heap.size wr).alloc (Nat.le_refl _) (.cells #[.int .i64 who, .int .i64 no, .string t] 75 (0, 0))
      have gx := blk_newO wr (.cells #[.int .i64 who, .int .i64 no, .string t] 75 (0, 0))
      obtain ⟨W1, hW1⟩ : ∃ W1, W1 = wr.alloc (.cells #[.int .i64 who, .int .i64 no, .string t] 75 (0, 0)) := ⟨_, rfl⟩
      rw [← hW1] at A1 gx
      have gr1 := (A1.block w.heap.size (Array.getElem?_eq_some_iff.1 gr).1).trans gr
      obtain ⟨r0, r1, r2, r3, r4⟩ := blk5 gr1
      have x0 : W1.cell? ⟨wr.heap.size, 0, none⟩ = some (.int .i64 who) := by simp [World.cell?, gx]
      have x1 : W1.cell? ⟨wr.heap.size, 1, none⟩ = some (.int .i64 no) := by simp [World.cell?, gx]
      have x2 : W1.cell? ⟨wr.heap.size, 2, none⟩ = some (.string t) := by simp [World.cell?, gx]
      have C := hide (fun wx (hb : Below W1.heap.size W1 wx) => isTold_any aT nT cT aH nH cH aL nL cL (some ⟨gb, go, none⟩) nG cG aN nN cN m wx HZ.out (((F0.out.below HR.out).below A1).below hb) who no t bk hbk)
      have HW1 := hide hW1
      have HA := hide A1
      have HBK := hide hbk
      have O1 := hide (own_belO HO.out A1)
      have HRZ := hide HR.out.size
      clear p0 p1 p2 hwho hno ht gr gr1 gx hbk A1 hW1
      cases bk with
      | false =>
        have E : Hid (bb = false) := bool_no10 HBB.out (fun h => by have h1 := (h.w k (by rw [HZ.out.g]; exact hlt)).t; rw [HX.out] at h1; have := HBK.out.2 h1; cases this)
        go_upto_region 5 with fail
        rw [← HW1.out]
        refine wp_region_held_drew (S := (fun wx => wx.cell? ⟨w.heap.size, 0, none⟩ = some (.slice aT nT cT) ∧ wx.cell? ⟨w.heap.size, 1, none⟩ = some (.slice aH nH cH) ∧ wx.cell? ⟨w.heap.size, 2, none⟩ = some (.slice aL nL cL) ∧ wx.cell? ⟨w.heap.size, 3, none⟩ = some (.slice (some ⟨gb, go, none⟩) nG cG) ∧ wx.cell? ⟨w.heap.size, 4, none⟩ = some (.slice aN nN cN) ∧ wx.cell? ⟨wr.heap.size, 0, none⟩ = some (.int .i64 who) ∧ wx.cell? ⟨wr.heap.size, 1, none⟩ = some (.int .i64 no) ∧ wx.cell? ⟨wr.heap.size, 2, none⟩ = some (.string t))) (by kernel_rfl) ⟨r0, r1, r2, r3, r4, x0, x1, x2⟩ (fun hHeld => ?_)
        refine wpAnyH_take (i := 0) (v := ?v295) rfl (by kernel_rfl) (by kernel_rfl) (by kernel_rfl) (fun _ _ _ h => h) (Or.inl ⟨by rfl, ?y295⟩) (by assumption) ?r295
        case y295 => (intro w hSw; (try dsimp only at hSw); go_simp; try (with_reducible rfl))
        simp only [List.getElem_toArray, List.getElem_cons_zero, Act.put, List.setIfInBounds_toArray, List.set_cons_zero, List.set_cons_succ]
        refine wpAnyH_take (i := 1) (v := ?v296) rfl (by kernel_rfl) (by kernel_rfl) (by kernel_rfl) (fun _ _ _ h => h) (Or.inl ⟨by rfl, ?y296⟩) (by assumption) ?r296
        case y296 => (intro w hSw; (try dsimp only at hSw); go_simp; try (with_reducible rfl))
        simp only [List.getElem_toArray, List.getElem_cons_succ, List.getElem_cons_zero, Act.put, List.setIfInBounds_toArray, List.set_cons_zero, List.set_cons_succ]
        refine wpAnyH_ready (rs := [2]) (by kernel_rfl) (by simp) ?_
        refine AllReadyH.cons rfl (fun K hK => ?_) AllReadyH.nil
        simp only [List.getElem_toArray, List.getElem_cons_succ, List.getElem_cons_zero]
        go_simp
        go_at_call 86
        refine (C.out _ ((Below.refl _ _).drew)).mono ?_
        rintro e w2 ⟨rfl, hb2⟩
        have hB2 := (Below.refl W1.heap.size W1).drew.trans (hb2.mono (Nat.le_refl _))
        have HB2 := hide hB2
        clear hB2
        dsimp only
        refine hK.out _ _ ?_ (fun hHeld => ?_)
        · exact keepW8 hHeld hb2
        clear hK K
        try simp only [Act.put, List.setIfInBounds_toArray, List.set_cons_zero, List.set_cons_succ]
        refine wpAnyH_take (i := 3) (v := ?v297) rfl (by kernel_rfl) (by kernel_rfl) (by kernel_rfl) (fun _ _ _ h => h) (Or.inl ⟨by rfl, ?y297⟩) (by assumption) ?r297
        case y297 => (intro w hSw; (try dsimp only at hSw); go_simp; try (with_reducible rfl))
        simp only [List.getElem_toArray, List.getElem_cons_succ, List.getElem_cons_zero, Act.put, List.setIfInBounds_toArray, List.set_cons_zero, List.set_cons_succ]
        refine wpAnyH_take (i := 4) (v := ?v298) rfl (by kernel_rfl) (by kernel_rfl) (by kernel_rfl) (fun _ _ _ h => h) (Or.inl ⟨by rfl, ?y298⟩) (by assumption) ?r298
        case y298 => (intro w hSw; (try dsimp only at hSw); go_simp; try (with_reducible rfl))
        simp only [List.getElem_toArray, List.getElem_cons_succ, List.getElem_cons_zero, Act.put, List.setIfInBounds_toArray, List.set_cons_zero, List.set_cons_succ]
        refine wpAnyH_take (i := 5) (v := undef) rfl (by kernel_rfl) (by kernel_rfl) (by kernel_rfl) (fun _ _ _ h => h) (Or.inr ⟨by rfl, rfl⟩) (by assumption) ?_
        simp only [List.getElem_toArray, List.getElem_cons_succ, List.getElem_cons_zero, Act.put, List.setIfInBounds_toArray, List.set_cons_zero, List.set_cons_succ]
        refine wpAnyH_take (i := 6) (v := undef) rfl (by kernel_rfl) (by kernel_rfl) (by kernel_rfl) (fun _ _ _ h => h) (Or.inr ⟨by rfl, rfl⟩) (by assumption) ?_
        simp only [List.getElem_toArray, List.getElem_cons_succ, List.getElem_cons_zero, Act.put, List.setIfInBounds_toArray, List.set_cons_zero, List.set_cons_succ]
        refine wpAnyH_take (i := 7) (v := undef) rfl (by kernel_rfl) (by kernel_rfl) (by kernel_rfl) (fun _ _ _ h => h) (Or.inr ⟨by rfl, rfl⟩) (by assumption) ?_
        simp only [List.getElem_toArray, List.getElem_cons_succ, List.getElem_cons_zero, Act.put, List.setIfInBounds_toArray, List.set_cons_zero, List.set_cons_succ]
        refine wpAnyH_take (i := 8) (v := undef) rfl (by kernel_rfl) (by kernel_rfl) (by kernel_rfl) (fun _ _ _ h => h) (Or.inr ⟨by rfl, rfl⟩) (by assumption) ?_
        simp only [List.getElem_toArray, List.getElem_cons_succ, List.getElem_cons_zero, Act.put, List.setIfInBounds_toArray, List.set_cons_zero, List.set_cons_succ]
        refine wpAnyH_take (i := 9) (v := undef) rfl (by kernel_rfl) (by kernel_rfl) (by kernel_rfl) (fun _ _ _ h => h) (Or.inr ⟨by rfl, rfl⟩) (by assumption) ?_
        simp only [List.getElem_toArray, List.getElem_cons_succ, List.getElem_cons_zero, Act.put, List.setIfInBounds_toArray, List.set_cons_zero, List.set_cons_succ]
        refine wpAnyH_take (i := 10) (v := undef) rfl (by kernel_rfl) (by kernel_rfl) (by kernel_rfl) (fun _ _ _ h => h) (Or.inr ⟨by rfl, rfl⟩) (by assumption) ?_
        simp only [List.getElem_toArray, List.getElem_cons_succ, List.getElem_cons_zero, Act.put, List.setIfInBounds_toArray, List.set_cons_zero, List.set_cons_succ]
        refine wpAnyH_take (i := 11) (v := undef) rfl (by kernel_rfl) (by kernel_rfl) (by kernel_rfl) (fun _ _ _ h => h) (Or.inr ⟨by rfl, rfl⟩) (by assumption) ?_
        simp only [List.getElem_toArray, List.getElem_cons_succ, List.getElem_cons_zero, Act.put, List.setIfInBounds_toArray, List.set_cons_zero, List.set_cons_succ]
        refine wpAnyH_take (i := 12) (v := undef) rfl (by kernel_rfl) (by kernel_rfl) (by kernel_rfl) (fun _ _ _ h => h) (Or.inr ⟨by rfl, rfl⟩) (by assumption) ?_
        simp only [List.getElem_toArray, List.getElem_cons_succ, List.getElem_cons_zero, Act.put, List.setIfInBounds_toArray, List.set_cons_zero, List.set_cons_succ]
        refine wpAnyH_take (i := 13) (v := ?v307) rfl (by kernel_rfl) (by kernel_rfl) (by kernel_rfl) (fun _ _ _ h => h) (Or.inl ⟨by rfl, ?y307⟩) (by assumption) ?r307
        case y307 => (intro w hSw; (try dsimp only at hSw); go_simp; try (with_reducible rfl))
        simp only [List.getElem_toArray, List.getElem_cons_succ, List.getElem_cons_zero, Act.put, List.setIfInBounds_toArray, List.set_cons_zero, List.set_cons_succ]
        refine wpAnyH_done (by kernel_rfl) ?_ _
        clear hHeld hb2
        go_wp2
        go_ret
        exact ⟨by rw [E.out]; rfl, HB.out.trans ((HR.out.trans ((HA.out.trans (HB2.out.mono HA.out.size)).mono HR.out.size)).mono HB.out.size)⟩
      | true =>
        have hT := HBK.out.1 (by first | rfl | trivial)
        have hw0 : 0 ≤ who := hT.w0
        have hw1 : who < (nN : Int) := by have h1 := hT.w1; rw [HZ.out.t, HTN.out] at h1; exact h1
        obtain ⟨u, hu⟩ : ∃ u : Nat, (u : Int) = who := ⟨who.toNat, by omega⟩
        subst hu
        have HT := hide hT
        clear hT
        have hwl := wrK_len nN m.lg k
        obtain ⟨x, hx⟩ : ∃ x, x = (wrK nN m.lg k).getD u 0 := ⟨_, rfl⟩
        have hxb := wrK_le nN m.lg k u
        rw [← hx] at hxb
        obtain ⟨hxb0, hxb1⟩ := hxb
        have hmu : ((wrK nN m.lg k).map (Value.int .i64))[u]? = some (.int .i64 x) := by
          rw [List.getElem?_map, List.getElem?_eq_getElem (show u < (wrK nN m.lg k).length by omega), hx]
          simp [List.getD, List.getElem?_eq_getElem (show u < (wrK nN m.lg k).length by omega)]
        have xg := (O1.out.cellAt u (by omega)).trans hmu
        have HXX := hide hx
        clear hx hmu hwl
        by_cases hne : no = x
        · have HK2 : Hid (∀ j, j < k + 1 → okW m nN j) := fun j hj => by
            by_cases e : j = k
            · subst e
              refine ⟨by rw [HX.out]; exact HT.out, ?_⟩
              rw [HX.out]
              show no = (wrK nN m.lg j).getD (u : Int).toNat 0
              rw [Int.toNat_natCast, ← HXX.out]
              exact hne
            · exact HK.out j (by omega)
          have f1 : (no != x) = false := by rw [hne]; simp
          have f2 : (x != no) = false := by rw [hne]; simp
          clear hne
          go_upto_region 5 with fail
          rw [← HW1.out]
          refine wp_region_held_drew (S := (fun wx => wx.cell? ⟨w.heap.size, 0, none⟩ = some (.slice aT nT cT) ∧ wx.cell? ⟨w.heap.size, 1, none⟩ = some (.slice aH nH cH) ∧ wx.cell? ⟨w.heap.size, 2, none⟩ = some (.slice aL nL cL) ∧ wx.cell? ⟨w.heap.size, 3, none⟩ = some (.slice (some ⟨gb, go, none⟩) nG cG) ∧ wx.cell? ⟨w.heap.size, 4, none⟩ = some (.slice aN nN cN) ∧ wx.cell? ⟨wr.heap.size, 0, none⟩ = some (.int .i64 (u : Int)) ∧ wx.cell? ⟨wr.heap.size, 1, none⟩ = some (.int .i64 no) ∧ wx.cell? ⟨wr.heap.size, 2, none⟩ = some (.string t) ∧ wx.cell? ⟨g, u, none⟩ = some (.int .i64 x))) (by kernel_rfl) ⟨r0, r1, r2, r3, r4, x0, x1, x2, xg⟩ (fun hHeld => ?_)
          refine wpAnyH_take (i := 0) (v := ?v308) rfl (by kernel_rfl) (by kernel_rfl) (by kernel_rfl) (fun _ _ _ h => h) (Or.inl ⟨by rfl, ?y308⟩) (by assumption) ?r308
          case y308 => (intro w hSw; (try dsimp only at hSw); go_simp; try (with_reducible rfl))
          simp only [List.getElem_toArray, List.getElem_cons_zero, Act.put, List.setIfInBounds_toArray, List.set_cons_zero, List.set_cons_succ]
          refine wpAnyH_take (i := 1) (v := ?v309) rfl (by kernel_rfl) (by kernel_rfl) (by kernel_rfl) (fun _ _ _ h => h) (Or.inl ⟨by rfl, ?y309⟩) (by assumption) ?r309
          case y309 => (intro w hSw; (try dsimp only at hSw); go_simp; try (with_reducible rfl))
          simp only [List.getElem_toArray, List.getElem_cons_succ, List.getElem_cons_zero, Act.put, List.setIfInBounds_toArray, List.set_cons_zero, List.set_cons_succ]
          refine wpAnyH_ready (rs := [2]) (by kernel_rfl) (by simp) ?_
          refine AllReadyH.cons rfl (fun K hK => ?_) AllReadyH.nil
          simp only [List.getElem_toArray, List.getElem_cons_succ, List.getElem_cons_zero]
          go_simp
          go_at_call 86
          refine (C.out _ ((Below.refl _ _).drew)).mono ?_
          rintro e w2 ⟨rfl, hb2⟩
          have hB2 := (Below.refl W1.heap.size W1).drew.trans (hb2.mono (Nat.le_refl _))
          have HB2 := hide hB2
          clear hB2
          dsimp only
          refine hK.out _ _ ?_ (fun hHeld => ?_)
          · exact keepW9 hHeld hb2
          clear hK K
          try simp only [Act.put, List.setIfInBounds_toArray, List.set_cons_zero, List.set_cons_succ]
          refine wpAnyH_take (i := 3) (v := ?v310) rfl (by kernel_rfl) (by kernel_rfl) (by kernel_rfl) (fun _ _ _ h => h) (Or.inl ⟨by rfl, ?y310⟩) (by assumption) ?r310
          case y310 => (intro w hSw; (try dsimp only at hSw); go_simp; try (with_reducible rfl))
          simp only [List.getElem_toArray, List.getElem_cons_succ, List.getElem_cons_zero, Act.put, List.setIfInBounds_toArray, List.set_cons_zero, List.set_cons_succ]
          refine wpAnyH_take (i := 4) (v := ?v311) rfl (by kernel_rfl) (by kernel_rfl) (by kernel_rfl) (fun _ _ _ h => h) (Or.inl ⟨by rfl, ?y311⟩) (by assumption) ?r311
          case y311 => (intro w hSw; (try dsimp only at hSw); go_simp; try (with_reducible rfl))
          simp only [List.getElem_toArray, List.getElem_cons_succ, List.getElem_cons_zero, Act.put, List.setIfInBounds_toArray, List.set_cons_zero, List.set_cons_succ]
          refine wpAnyH_take (i := 5) (v := ?v312) rfl (by kernel_rfl) (by kernel_rfl) (by kernel_rfl) (fun _ _ _ h => h) (Or.inl ⟨by rfl, ?y312⟩) (by assumption) ?r312
          case y312 => (intro w hSw; (try dsimp only at hSw); go_simp; try (with_reducible rfl))
          simp only [List.getElem_toArray, List.getElem_cons_succ, List.getElem_cons_zero, Act.put, List.setIfInBounds_toArray, List.set_cons_zero, List.set_cons_succ]
          refine wpAnyH_take (i := 6) (v := ?v313) rfl (by kernel_rfl) (by kernel_rfl) (by kernel_rfl) (fun _ _ _ h => h) (Or.inl ⟨by rfl, ?y313⟩) (by assumption) ?r313
          case y313 => (intro w hSw; (try dsimp only at hSw); go_simp; try (with_reducible rfl))
          simp only [List.getElem_toArray, List.getElem_cons_succ, List.getElem_cons_zero, Act.put, List.setIfInBounds_toArray, List.set_cons_zero, List.set_cons_succ]
          refine wpAnyH_take (i := 7) (v := ?v314) rfl (by kernel_rfl) (by kernel_rfl) (by kernel_rfl) (fun _ _ _ h => h) (Or.inl ⟨by rfl, ?y314⟩) (by assumption) ?r314
          case y314 => (intro w hSw; (try dsimp only at hSw); go_simp; try (with_reducible rfl))
          simp only [List.getElem_toArray, List.getElem_cons_succ, List.getElem_cons_zero, Act.put, List.setIfInBounds_toArray, List.set_cons_zero, List.set_cons_succ]
          refine wpAnyH_take (i := 8) (v := ?v315) rfl (by kernel_rfl) (by kernel_rfl) (by kernel_rfl) (fun _ _ _ h => h) (Or.inl ⟨by rfl, ?y315⟩) (by assumption) ?r315
          case y315 => (intro w hSw; (try dsimp only at hSw); go_simp; try (with_reducible rfl))
          simp only [List.getElem_toArray, List.getElem_cons_succ, List.getElem_cons_zero, Act.put, List.setIfInBounds_toArray, List.set_cons_zero, List.set_cons_succ]
          refine wpAnyH_take (i := 9) (v := ?v316) rfl (by kernel_rfl) (by kernel_rfl) (by kernel_rfl) (fun _ _ _ h => h) (Or.inl ⟨by rfl, ?y316⟩) (by assumption) ?r316
          case y316 => (intro w hSw; (try dsimp only at hSw); go_simp; try (with_reducible rfl))
          simp only [List.getElem_toArray, List.getElem_cons_succ, List.getElem_cons_zero, Act.put, List.setIfInBounds_toArray, List.set_cons_zero, List.set_cons_succ]
          refine wpAnyH_take (i := 10) (v := ?v317) rfl (by kernel_rfl) (by kernel_rfl) (by kernel_rfl) (fun _ _ _ h => h) (Or.inl ⟨by rfl, ?y317⟩) (by assumption) ?r317
          case y317 => (intro w hSw; (try dsimp only at hSw); go_simp; try (with_reducible rfl))
          simp only [List.getElem_toArray, List.getElem_cons_succ, List.getElem_cons_zero, Act.put, List.setIfInBounds_toArray, List.set_cons_zero, List.set_cons_succ]
          refine wpAnyH_take (i := 11) (v := ?v318) rfl (by kernel_rfl) (by kernel_rfl) (by kernel_rfl) (fun _ _ _ h => h) (Or.inl ⟨by rfl, ?y318⟩) (by assumption) ?r318
          case y318 => (intro w hSw; (try dsimp only at hSw); go_simp; try (with_reducible rfl))
          simp only [List.getElem_toArray, List.getElem_cons_succ, List.getElem_cons_zero, Act.put, List.setIfInBounds_toArray, List.set_cons_zero, List.set_cons_succ]
          refine wpAnyH_take (i := 12) (v := ?v319) rfl (by kernel_rfl) (by kernel_rfl) (by kernel_rfl) (fun _ _ _ h => h) (Or.inl ⟨by rfl, ?y319⟩) (by assumption) ?r319
          case y319 => (intro w hSw; (try dsimp only at hSw); go_simp; try (with_reducible rfl))
          simp only [List.getElem_toArray, List.getElem_cons_succ, List.getElem_cons_zero, Act.put, List.setIfInBounds_toArray, List.set_cons_zero, List.set_cons_succ]
          refine wpAnyH_take (i := 13) (v := ?v320) rfl (by kernel_rfl) (by kernel_rfl) (by kernel_rfl) (fun _ _ _ h => h) (Or.inl ⟨by rfl, ?y320⟩) (by assumption) ?r320
          case y320 => (intro w hSw; (try dsimp only at hSw); go_simp; try (with_reducible rfl))
          simp only [List.getElem_toArray, List.getElem_cons_succ, List.getElem_cons_zero, Act.put, List.setIfInBounds_toArray, List.set_cons_zero, List.set_cons_succ]
          refine wpAnyH_done (by kernel_rfl) ?_ _
          obtain ⟨a0, a1, a2, a3, a4, a5, a6, a7, a8⟩ := hHeld
          have o2 := own_belO O1.out HB2.out
          have fz := o2.frozenAt u
          have hst := o2.stored u (.int .i64 (x + 1))
          have R2 : Hid ((w2.setCell ⟨g, u, none⟩ (.int .i64 (x + 1))).ownsRow g 3 1 (.slice (some ⟨g, 0, none⟩) nN nN) nN ((wrK nN m.lg (k + 1)).map (Value.int .i64))) := by
            have e : wrK nN m.lg (k + 1) = (wrK nN m.lg k).set u (x + 1) := by
              show (wrK nN m.lg k).set (m.lg.getD k e3).1.toNat ((wrK nN m.lg k).getD (m.lg.getD k e3).1.toNat 0 + 1) = _
              rw [HX.out]
              show (wrK nN m.lg k).set (u : Int).toNat ((wrK nN m.lg k).getD (u : Int).toNat 0 + 1) = _
              rw [Int.toNat_natCast, ← HXX.out]
            rw [e, List.map_set]
            exact hide hst.1
          have B2 : Hid (Below W0.heap.size W0 (w2.setCell ⟨g, u, none⟩ (.int .i64 (x + 1)))) := hide ((HR.out.trans ((HA.out.trans (HB2.out.mono HA.out.size)).mono HR.out.size)).setCell (p := ⟨g, u, none⟩) (by rw [HGE.out]; exact Nat.le_refl _) _)
          clear o2 hst hb2 f1 f2
          go_wp2
          go_roundw
          case rel => exact ⟨k + 1, by omega, by go_num, HK2.out, R2, B2⟩
          case measure => simp [intOf]; omega
        · have f1 : (no != x) = true := by simpa using hne
          have f2 : (x != no) = true := by simpa using (fun h : x = no => hne h.symm)
          have f3 : ¬ x = no := fun h => hne h.symm
          have E : Hid (bb = false) := bool_no10 HBB.out (fun h => hne (by
            have h1 := (h.w k (by rw [HZ.out.g]; exact hlt)).n
            rw [HX.out, HZ.out.n] at h1
            have h2 : no = (wrK nN m.lg k).getD (u : Int).toNat 0 := h1
            rw [Int.toNat_natCast, ← HXX.out] at h2
            exact h2))
          go_upto_region 5 with fail
          rw [← HW1.out]
          refine wp_region_held_drew (S := (fun wx => wx.cell? ⟨w.heap.size, 0, none⟩ = some (.slice aT nT cT) ∧ wx.cell? ⟨w.heap.size, 1, none⟩ = some (.slice aH nH cH) ∧ wx.cell? ⟨w.heap.size, 2, none⟩ = some (.slice aL nL cL) ∧ wx.cell? ⟨w.heap.size, 3, none⟩ = some (.slice (some ⟨gb, go, none⟩) nG cG) ∧ wx.cell? ⟨w.heap.size, 4, none⟩ = some (.slice aN nN cN) ∧ wx.cell? ⟨wr.heap.size, 0, none⟩ = some (.int .i64 (u : Int)) ∧ wx.cell? ⟨wr.heap.size, 1, none⟩ = some (.int .i64 no) ∧ wx.cell? ⟨wr.heap.size, 2, none⟩ = some (.string t) ∧ wx.cell? ⟨g, u, none⟩ = some (.int .i64 x))) (by kernel_rfl) ⟨r0, r1, r2, r3, r4, x0, x1, x2, xg⟩ (fun hHeld => ?_)
          refine wpAnyH_take (i := 0) (v := ?v321) rfl (by kernel_rfl) (by kernel_rfl) (by kernel_rfl) (fun _ _ _ h => h) (Or.inl ⟨by rfl, ?y321⟩) (by assumption) ?r321
          case y321 => (intro w hSw; (try dsimp only at hSw); go_simp; try (with_reducible rfl))
          simp only [List.getElem_toArray, List.getElem_cons_zero, Act.put, List.setIfInBounds_toArray, List.set_cons_zero, List.set_cons_succ]
          refine wpAnyH_take (i := 1) (v := ?v322) rfl (by kernel_rfl) (by kernel_rfl) (by kernel_rfl) (fun _ _ _ h => h) (Or.inl ⟨by rfl, ?y322⟩) (by assumption) ?r322
          case y322 => (intro w hSw; (try dsimp only at hSw); go_simp; try (with_reducible rfl))
          simp only [List.getElem_toArray, List.getElem_cons_succ, List.getElem_cons_zero, Act.put, List.setIfInBounds_toArray, List.set_cons_zero, List.set_cons_succ]
          refine wpAnyH_ready (rs := [2]) (by kernel_rfl) (by simp) ?_
          refine AllReadyH.cons rfl (fun K hK => ?_) AllReadyH.nil
          simp only [List.getElem_toArray, List.getElem_cons_succ, List.getElem_cons_zero]
          go_simp
          go_at_call 86
          refine (C.out _ ((Below.refl _ _).drew)).mono ?_
          rintro e w2 ⟨rfl, hb2⟩
          have hB2 := (Below.refl W1.heap.size W1).drew.trans (hb2.mono (Nat.le_refl _))
          have HB2 := hide hB2
          clear hB2
          dsimp only
          refine hK.out _ _ ?_ (fun hHeld => ?_)
          · exact keepW9 hHeld hb2
          clear hK K
          try simp only [Act.put, List.setIfInBounds_toArray, List.set_cons_zero, List.set_cons_succ]
          refine wpAnyH_take (i := 3) (v := ?v323) rfl (by kernel_rfl) (by kernel_rfl) (by kernel_rfl) (fun _ _ _ h => h) (Or.inl ⟨by rfl, ?y323⟩) (by assumption) ?r323
          case y323 => (intro w hSw; (try dsimp only at hSw); go_simp; try (with_reducible rfl))
          simp only [List.getElem_toArray, List.getElem_cons_succ, List.getElem_cons_zero, Act.put, List.setIfInBounds_toArray, List.set_cons_zero, List.set_cons_succ]
          refine wpAnyH_take (i := 4) (v := ?v324) rfl (by kernel_rfl) (by kernel_rfl) (by kernel_rfl) (fun _ _ _ h => h) (Or.inl ⟨by rfl, ?y324⟩) (by assumption) ?r324
          case y324 => (intro w hSw; (try dsimp only at hSw); go_simp; try (with_reducible rfl))
          simp only [List.getElem_toArray, List.getElem_cons_succ, List.getElem_cons_zero, Act.put, List.setIfInBounds_toArray, List.set_cons_zero, List.set_cons_succ]
          refine wpAnyH_take (i := 5) (v := ?v325) rfl (by kernel_rfl) (by kernel_rfl) (by kernel_rfl) (fun _ _ _ h => h) (Or.inl ⟨by rfl, ?y325⟩) (by assumption) ?r325
          case y325 => (intro w hSw; (try dsimp only at hSw); go_simp; try (with_reducible rfl))
          simp only [List.getElem_toArray, List.getElem_cons_succ, List.getElem_cons_zero, Act.put, List.setIfInBounds_toArray, List.set_cons_zero, List.set_cons_succ]
          refine wpAnyH_take (i := 6) (v := ?v326) rfl (by kernel_rfl) (by kernel_rfl) (by kernel_rfl) (fun _ _ _ h => h) (Or.inl ⟨by rfl, ?y326⟩) (by assumption) ?r326
          case y326 => (intro w hSw; (try dsimp only at hSw); go_simp; try (with_reducible rfl))
          simp only [List.getElem_toArray, List.getElem_cons_succ, List.getElem_cons_zero, Act.put, List.setIfInBounds_toArray, List.set_cons_zero, List.set_cons_succ]
          refine wpAnyH_take (i := 7) (v := ?v327) rfl (by kernel_rfl) (by kernel_rfl) (by kernel_rfl) (fun _ _ _ h => h) (Or.inl ⟨by rfl, ?y327⟩) (by assumption) ?r327
          case y327 => (intro w hSw; (try dsimp only at hSw); go_simp; try (with_reducible rfl))
          simp only [List.getElem_toArray, List.getElem_cons_succ, List.getElem_cons_zero, Act.put, List.setIfInBounds_toArray, List.set_cons_zero, List.set_cons_succ]
          refine wpAnyH_take (i := 8) (v := ?v328) rfl (by kernel_rfl) (by kernel_rfl) (by kernel_rfl) (fun _ _ _ h => h) (Or.inl ⟨by rfl, ?y328⟩) (by assumption) ?r328
          case y328 => (intro w hSw; (try dsimp only at hSw); go_simp; try (with_reducible rfl))
          simp only [List.getElem_toArray, List.getElem_cons_succ, List.getElem_cons_zero, Act.put, List.setIfInBounds_toArray, List.set_cons_zero, List.set_cons_succ]
          refine wpAnyH_take (i := 9) (v := ?v329) rfl (by kernel_rfl) (by kernel_rfl) (by kernel_rfl) (fun _ _ _ h => h) (Or.inl ⟨by rfl, ?y329⟩) (by assumption) ?r329
          case y329 => (intro w hSw; (try dsimp only at hSw); go_simp; try (with_reducible rfl))
          simp only [List.getElem_toArray, List.getElem_cons_succ, List.getElem_cons_zero, Act.put, List.setIfInBounds_toArray, List.set_cons_zero, List.set_cons_succ]
          refine wpAnyH_take (i := 10) (v := ?v330) rfl (by kernel_rfl) (by kernel_rfl) (by kernel_rfl) (fun _ _ _ h => h) (Or.inl ⟨by rfl, ?y330⟩) (by assumption) ?r330
          case y330 => (intro w hSw; (try dsimp only at hSw); go_simp; try (with_reducible rfl))
          simp only [List.getElem_toArray, List.getElem_cons_succ, List.getElem_cons_zero, Act.put, List.setIfInBounds_toArray, List.set_cons_zero, List.set_cons_succ]
          refine wpAnyH_take (i := 11) (v := ?v331) rfl (by kernel_rfl) (by kernel_rfl) (by kernel_rfl) (fun _ _ _ h => h) (Or.inl ⟨by rfl, ?y331⟩) (by assumption) ?r331
          case y331 => (intro w hSw; (try dsimp only at hSw); go_simp; try (with_reducible rfl))
          simp only [List.getElem_toArray, List.getElem_cons_succ, List.getElem_cons_zero, Act.put, List.setIfInBounds_toArray, List.set_cons_zero, List.set_cons_succ]
          refine wpAnyH_take (i := 12) (v := ?v332) rfl (by kernel_rfl) (by kernel_rfl) (by kernel_rfl) (fun _ _ _ h => h) (Or.inl ⟨by rfl, ?y332⟩) (by assumption) ?r332
          case y332 => (intro w hSw; (try dsimp only at hSw); go_simp; try (with_reducible rfl))
          simp only [List.getElem_toArray, List.getElem_cons_succ, List.getElem_cons_zero, Act.put, List.setIfInBounds_toArray, List.set_cons_zero, List.set_cons_succ]
          refine wpAnyH_take (i := 13) (v := ?v333) rfl (by kernel_rfl) (by kernel_rfl) (by kernel_rfl) (fun _ _ _ h => h) (Or.inl ⟨by rfl, ?y333⟩) (by assumption) ?r333
          case y333 => (intro w hSw; (try dsimp only at hSw); go_simp; try (with_reducible rfl))
          simp only [List.getElem_toArray, List.getElem_cons_succ, List.getElem_cons_zero, Act.put, List.setIfInBounds_toArray, List.set_cons_zero, List.set_cons_succ]
          refine wpAnyH_done (by kernel_rfl) ?_ _
          clear hHeld hb2
          go_wp2
          go_ret
          exact ⟨by rw [E.out]; rfl, HB.out.trans ((HR.out.trans ((HA.out.trans (HB2.out.mono HA.out.size)).mono HR.out.size)).mono HB.out.size)⟩
    · obtain rfl : k = nG := by omega
      have hltI : ¬ (k : Int) < (k : Int) := by omega
      have EQ : Hid (bb = true ↔ wrK nN m.lg k = m.nx) := HBB.out.trans ⟨fun h => by have h1 := h.e; rw [HZ.out.n, HZ.out.g] at h1; exact h1, fun h => ⟨fun j hj => by rw [HZ.out.n]; exact HK.out j (by have := HZ.out.g; omega), by rw [HZ.out.n, HZ.out.g]; exact h⟩⟩
      have gr := (HR.out.block w.heap.size HGG).trans HG.out
      obtain ⟨r0, r1, r2, r3, r4⟩ := blk5 gr
      have C := hide (equal_any (some ⟨g, 0, none⟩) aN (wrK nN m.lg k) m.nx nN nN nN cN wr (wrK_len _ _ _) HZ.out.n (sl_of_own HO.out) (F0.out.below HR.out).n (by omega) (by omega) bb EQ.out)
      clear gr EQ
      go_wp2_with fail
      refine C.out.mono ?_
      rintro e w3 ⟨rfl, hb3⟩
      have B3 := hide (HB.out.trans ((HR.out.trans (hb3.mono HR.out.size)).mono HB.out.size))
      clear hb3
      go_wp2
      go_ret
      exact ⟨rfl, B3.out⟩
end Go.Proofs.Ythmekhhfihjclag.L10
