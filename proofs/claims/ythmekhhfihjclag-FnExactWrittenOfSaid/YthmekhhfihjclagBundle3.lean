/-
  Contract: impl.goodWritten.
  Contract: impl.GoodTell.
  Contract: impl.WrittenOf.
  Contracts: spec.l10Who, spec.l10Said.
  Contract: spec.l1In.
  Contract: spec.l1Same.
-/
import Derived.Test.YthmekhhfihjclagBundle2
import Derived.Deep.RegionHeld3
import Derived.Deep.DeepCutAuto
import Derived.Maps.AppendAt
import Derived.Test.YthmekhhfihjclagBundle1
import Derived.Deep.QuietTactic
import Derived.BigQuiet
namespace Go.Proofs.Ythmekhhfihjclag.L10
open Go.RowKit L1 Own Str Nte Tri
set_option linter.unusedVariables false

theorem keepW8 {wa wb : World} {B0 B1 B2 B3 B4 B5 B6 B7 O0 O1 O2 O3 O4 O5 O6 O7 : Nat} {v0 v1 v2 v3 v4 v5 v6 v7 : Value} (h : wa.cell? ⟨B0, O0, none⟩ = some v0 ∧ wa.cell? ⟨B1, O1, none⟩ = some v1 ∧ wa.cell? ⟨B2, O2, none⟩ = some v2 ∧ wa.cell? ⟨B3, O3, none⟩ = some v3 ∧ wa.cell? ⟨B4, O4, none⟩ = some v4 ∧ wa.cell? ⟨B5, O5, none⟩ = some v5 ∧ wa.cell? ⟨B6, O6, none⟩ = some v6 ∧ wa.cell? ⟨B7, O7, none⟩ = some v7) (hb : Below wa.heap.size wa wb) : wb.cell? ⟨B0, O0, none⟩ = some v0 ∧ wb.cell? ⟨B1, O1, none⟩ = some v1 ∧ wb.cell? ⟨B2, O2, none⟩ = some v2 ∧ wb.cell? ⟨B3, O3, none⟩ = some v3 ∧ wb.cell? ⟨B4, O4, none⟩ = some v4 ∧ wb.cell? ⟨B5, O5, none⟩ = some v5 ∧ wb.cell? ⟨B6, O6, none⟩ = some v6 ∧ wb.cell? ⟨B7, O7, none⟩ = some v7 :=
  ⟨(hb.cell (p := ⟨B0, O0, none⟩) (blk_lt h.1)).trans h.1, (hb.cell (p := ⟨B1, O1, none⟩) (blk_lt h.2.1)).trans h.2.1, (hb.cell (p := ⟨B2, O2, none⟩) (blk_lt h.2.2.1)).trans h.2.2.1, (hb.cell (p := ⟨B3, O3, none⟩) (blk_lt h.2.2.2.1)).trans h.2.2.2.1, (hb.cell (p := ⟨B4, O4, none⟩) (blk_lt h.2.2.2.2.1)).trans h.2.2.2.2.1, (hb.cell (p := ⟨B5, O5, none⟩) (blk_lt h.2.2.2.2.2.1)).trans h.2.2.2.2.2.1, (hb.cell (p := ⟨B6, O6, none⟩) (blk_lt h.2.2.2.2.2.2.1)).trans h.2.2.2.2.2.2.1, (hb.cell (p := ⟨B7, O7, none⟩) (blk_lt h.2.2.2.2.2.2.2)).trans h.2.2.2.2.2.2.2⟩
theorem keepW9 {wa wb : World} {B0 B1 B2 B3 B4 B5 B6 B7 B8 O0 O1 O2 O3 O4 O5 O6 O7 O8 : Nat} {v0 v1 v2 v3 v4 v5 v6 v7 v8 : Value} (h : wa.cell? ⟨B0, O0, none⟩ = some v0 ∧ wa.cell? ⟨B1, O1, none⟩ = some v1 ∧ wa.cell? ⟨B2, O2, none⟩ = some v2 ∧ wa.cell? ⟨B3, O3, none⟩ = some v3 ∧ wa.cell? ⟨B4, O4, none⟩ = some v4 ∧ wa.cell? ⟨B5, O5, none⟩ = some v5 ∧ wa.cell? ⟨B6, O6, none⟩ = some v6 ∧ wa.cell? ⟨B7, O7, none⟩ = some v7 ∧ wa.cell? ⟨B8, O8, none⟩ = some v8) (hb : Below wa.heap.size wa wb) : wb.cell? ⟨B0, O0, none⟩ = some v0 ∧ wb.cell? ⟨B1, O1, none⟩ = some v1 ∧ wb.cell? ⟨B2, O2, none⟩ = some v2 ∧ wb.cell? ⟨B3, O3, none⟩ = some v3 ∧ wb.cell? ⟨B4, O4, none⟩ = some v4 ∧ wb.cell? ⟨B5, O5, none⟩ = some v5 ∧ wb.cell? ⟨B6, O6, none⟩ = some v6 ∧ wb.cell? ⟨B7, O7, none⟩ = some v7 ∧ wb.cell? ⟨B8, O8, none⟩ = some v8 :=
  ⟨(hb.cell (p := ⟨B0, O0, none⟩) (blk_lt h.1)).trans h.1, (hb.cell (p := ⟨B1, O1, none⟩) (blk_lt h.2.1)).trans h.2.1, (hb.cell (p := ⟨B2, O2, none⟩) (blk_lt h.2.2.1)).trans h.2.2.1, (hb.cell (p := ⟨B3, O3, none⟩) (blk_lt h.2.2.2.1)).trans h.2.2.2.1, (hb.cell (p := ⟨B4, O4, none⟩) (blk_lt h.2.2.2.2.1)).trans h.2.2.2.2.1, (hb.cell (p := ⟨B5, O5, none⟩) (blk_lt h.2.2.2.2.2.1)).trans h.2.2.2.2.2.1, (hb.cell (p := ⟨B6, O6, none⟩) (blk_lt h.2.2.2.2.2.2.1)).trans h.2.2.2.2.2.2.1, (hb.cell (p := ⟨B7, O7, none⟩) (blk_lt h.2.2.2.2.2.2.2.1)).trans h.2.2.2.2.2.2.2.1, (hb.cell (p := ⟨B8, O8, none⟩) (blk_lt h.2.2.2.2.2.2.2.2)).trans h.2.2.2.2.2.2.2.2⟩
set_option maxRecDepth 100000 in
set_option maxHeartbeats 4000000 in
theorem goodWritten_any (aT : Option Addr) (nT cT : Nat) (aH : Option Addr) (nH cH : Nat) (aL : Option Addr) (nL cL : Nat) (aG : Option Addr) (nG cG : Nat) (aN : Option Addr) (nN cN : Nat) (m : Tm) (w : World) (hz : TlZ m nT nH nL nG nN) (hF : TlF w aT aH aL aG aN m) (hTN : nT = nN) (bb : Bool) (hbb : bb = true ↔ GoodW m) :
    Calls Try.prog 52 #[tlV aT nT cT aH nH cH aL nL cL aG nG cG aN nN cN] w fun e w' => e = .returned (.bool bb) ∧ Below w.heap.size w w' := by
  have bG : nG ≤ 1048576 := hz.bg
  have bN : nN ≤ 1048576 := hz.bn
  have HTN := hide hTN
  clear hTN
  have BX := (Below.refl w.heap.size w).alloc (Nat.le_refl _) (tlO aT nT cT aH nH cH aL nL cL aG nG cG aN nN cN)
  have g0 := blk_newO w (tlO aT nT cT aH nH cH aL nL cL aG nG cG aN nN cN)
  obtain ⟨W0, hW0⟩ : ∃ W0, W0 = w.alloc (tlO aT nT cT aH nH cH aL nL cL aG nG cG aN nN cN) := ⟨_, rfl⟩
  rw [← hW0] at BX g0
  have HW := hide hW0
  have F0 := hide (hF.below BX)
  have HB := hide BX
  have HG := hide g0
  have HBB := hide hbb
  have HZ := hide hz
  obtain ⟨k0, k1, k2, k3, k4⟩ := blk5 g0
  clear hW0 g0 hbb hz hF BX
  obtain ⟨i0, hi, hz0, hz1, hz2⟩ := info_parts info_int
  obtain ⟨w1, hmk, hown1, hg1⟩ := run_make_full (P := Try.prog) W0 W0.heap.size 23 3 i0 (.int .i64 0) 1 Try.underlying23 hi hz0 hz1 .i64 .i64 nN (by rw [hz2]; omega) (by unfold maxLen; omega) (Nat.le_refl _)
  have hb1 : Below W0.heap.size W0 w1 := (Below.refl _ _).grown hg1 (Nat.le_refl _) (fun k hk => by cases hk)
  have e1 : (madeCells (Value.int .i64 0).cells (nN * 1)).toList = (wrK nN m.lg 0).map (Value.int .i64) := by
    rw [show (Value.int .i64 0).cells = #[Value.int .i64 0] from rfl, Nat.mul_one, toList_madeCells_one]
    show _ = (List.replicate nN (0 : Int)).map (Value.int .i64)
    rw [List.map_replicate]
  rw [e1] at hown1
  have hgl := (hown1.lt W0.heap.size rfl).2
  have HGG := (Array.getElem?_eq_some_iff.1 HG.out).1
  obtain ⟨g, hg⟩ : ∃ g, g = W0.heap.size := ⟨_, rfl⟩
  have HO := hide hown1
  have HB1 := hide hb1
  have HGE := hide hg
  have k0' := (hb1.cell (p := ⟨w.heap.size, 3, none⟩) (blk_lt k3)).trans k3
  rw [← hg] at HO hmk
  clear hown1 hb1 hg1 e1 hg
  go_enter Try.func52, Try.ntmps52
  go_upto_region 1 with fail
  rw [← HW.out]
  go_wp2
  go_loopw [13] (fun i wr => ∃ k : Nat, k ≤ nG ∧ i = .int .i64 k ∧ Hid (∀ j, j < k → okW m nN j) ∧ Hid (wr.ownsRow g 3 1 (.slice (some ⟨g, 0, none⟩) nN nN) nN ((wrK nN m.lg k).map (Value.int .i64))) ∧ Hid (Below W0.heap.size W0 wr)) (fun i _ => nG - (intOf i).toNat)
  case atStart => exact ⟨0, Nat.zero_le _, rfl, fun j hj => absurd hj (Nat.not_lt_zero _), HO, HB1⟩
  case round =>
    obtain ⟨k, hk, rfl, HK, HO, HR⟩ := hrel
    by_cases hlt : k < nG
    · obtain ⟨gb, go, ea, p0, p1, p2⟩ := F0.out.g k (by rw [HZ.out.g]; exact hlt)
      subst ea
      have q0 := (HR.out.cell (p := ⟨gb, go + k * 3, none⟩) (blk_lt p0)).trans p0
      have q1 := (HR.out.cell (p := ⟨gb, go + k * 3 + 1, none⟩) (blk_lt p1)).trans p1
      have q2 := (HR.out.cell (p := ⟨gb, go + k * 3 + 2, none⟩) (blk_lt p2)).trans p2
      have hltI : (k : Int) < (nG : Int) := by omega
      obtain ⟨who, hwho⟩ : ∃ x, x = (m.lg.getD k e3).1 := ⟨_, rfl⟩
      obtain ⟨no, hno⟩ : ∃ x, x = (m.lg.getD k e3).2.1 := ⟨_, rfl⟩
      obtain ⟨t, ht⟩ : ∃ x, x = (m.lg.getD k e3).2.2 := ⟨_, rfl⟩
      rw [← hwho] at q0
      rw [← hno] at q1
      rw [← ht] at q2
      have HX : Hid (m.lg.getD k e3 = (who, no, t)) := by show _ = _; rw [hwho, hno, ht]
      obtain ⟨bk, hbk⟩ := dec_ex (isTo m (who, no, t))
      have gr := (HR.out.block w.heap.size HGG).trans HG.out
      have A1 := (Below.refl wr.heap.size wr).alloc (Nat.le_refl _) (.cells #[.int .i64 who, .int .i64 no, .string t] 75 (0, 0))
      have gx := blk_newO wr (.cells #[.int .i64 who, .int .i64 no, .string t] 75 (0, 0))
      obtain ⟨W1, hW1⟩ : ∃ W1, W1 = wr.alloc (.cells #[.int .i64 who, .int .i64 no, .string t] 75 (0, 0)) := ⟨_, rfl⟩
      rw [← hW1] at A1 gx
      have gr1 := (A1.block w.heap.size (Array.getElem?_eq_some_iff.1 gr).1).trans gr
      obtain ⟨r0, r1, r2, r3, r4⟩ := blk5 gr1
      have x0 : W1.cell? ⟨wr.heap.size, 0, none⟩ = some (.int .i64 who) := by simp [World.cell?, gx]
      have x1 : W1.cell? ⟨wr.heap.size, 1, none⟩ = some (.int .i64 no) := by simp [World.cell?, gx]
      have x2 : W1.cell? ⟨wr.heap.size, 2, none⟩ = some (.string t) := by simp [World.cell?, gx]
      have C := hide (fun wx (hb : Below W1.heap.size W1 wx) => isTold_any aT nT cT aH nH cH aL nL cL (some ⟨gb, go, none⟩) nG cG aN nN cN m wx HZ.out (((F0.out.below HR.out).below A1).below hb) who no t bk hbk)
      have HW1 := hide hW1
      have HA := hide A1
      have HBK := hide hbk
      have O1 := hide (own_belO HO.out A1)
      have HRZ := hide HR.out.size
      clear p0 p1 p2 hwho hno ht gr gr1 gx hbk A1 hW1
      cases bk with
      | false =>
        have E : Hid (bb = false) := bool_no10 HBB.out (fun h => by have h1 := (h.w k (by rw [HZ.out.g]; exact hlt)).t; rw [HX.out] at h1; have := HBK.out.2 h1; cases this)
        go_upto_region 5 with fail
        rw [← HW1.out]
        refine wp_region_held_drew (S := (fun wx => wx.cell? ⟨w.heap.size, 0, none⟩ = some (.slice aT nT cT) ∧ wx.cell? ⟨w.heap.size, 1, none⟩ = some (.slice aH nH cH) ∧ wx.cell? ⟨w.heap.size, 2, none⟩ = some (.slice aL nL cL) ∧ wx.cell? ⟨w.heap.size, 3, none⟩ = some (.slice (some ⟨gb, go, none⟩) nG cG) ∧ wx.cell? ⟨w.heap.size, 4, none⟩ = some (.slice aN nN cN) ∧ wx.cell? ⟨wr.heap.size, 0, none⟩ = some (.int .i64 who) ∧ wx.cell? ⟨wr.heap.size, 1, none⟩ = some (.int .i64 no) ∧ wx.cell? ⟨wr.heap.size, 2, none⟩ = some (.string t))) (by kernel_rfl) ⟨r0, r1, r2, r3, r4, x0, x1, x2⟩ (fun hHeld => ?_)
        refine wpAnyH_take (i := 0) (v := ?v295) rfl (by kernel_rfl) (by kernel_rfl) (by kernel_rfl) (fun _ _ _ h => h) (Or.inl ⟨by rfl, ?y295⟩) (by assumption) ?r295
        case y295 => (intro w hSw; (try dsimp only at hSw); go_simp; try (with_reducible rfl))
        simp only [List.getElem_toArray, List.getElem_cons_zero, Act.put, List.setIfInBounds_toArray, List.set_cons_zero, List.set_cons_succ]
        refine wpAnyH_take (i := 1) (v := ?v296) rfl (by kernel_rfl) (by kernel_rfl) (by kernel_rfl) (fun _ _ _ h => h) (Or.inl ⟨by rfl, ?y296⟩) (by assumption) ?r296
        case y296 => (intro w hSw; (try dsimp only at hSw); go_simp; try (with_reducible rfl))
        simp only [List.getElem_toArray, List.getElem_cons_succ, List.getElem_cons_zero, Act.put, List.setIfInBounds_toArray, List.set_cons_zero, List.set_cons_succ]
        refine wpAnyH_ready (rs := [2]) (by kernel_rfl) (by simp) ?_
        refine AllReadyH.cons rfl (fun K hK => ?_) AllReadyH.nil
        simp only [List.getElem_toArray, List.getElem_cons_succ, List.getElem_cons_zero]
        go_simp
        go_at_call 86
        refine (C.out _ ((Below.refl _ _).drew)).mono ?_
        rintro e w2 ⟨rfl, hb2⟩
        have hB2 := (Below.refl W1.heap.size W1).drew.trans (hb2.mono (Nat.le_refl _))
        have HB2 := hide hB2
        clear hB2
        dsimp only
        refine hK.out _ _ ?_ (fun hHeld => ?_)
        · exact keepW8 hHeld hb2
        clear hK K
        try simp only [Act.put, List.setIfInBounds_toArray, List.set_cons_zero, List.set_cons_succ]
        refine wpAnyH_take (i := 3) (v := ?v297) rfl (by kernel_rfl) (by kernel_rfl) (by kernel_rfl) (fun _ _ _ h => h) (Or.inl ⟨by rfl, ?y297⟩) (by assumption) ?r297
        case y297 => (intro w hSw; (try dsimp only at hSw); go_simp; try (with_reducible rfl))
        simp only [List.getElem_toArray, List.getElem_cons_succ, List.getElem_cons_zero, Act.put, List.setIfInBounds_toArray, List.set_cons_zero, List.set_cons_succ]
        refine wpAnyH_take (i := 4) (v := ?v298) rfl (by kernel_rfl) (by kernel_rfl) (by kernel_rfl) (fun _ _ _ h => h) (Or.inl ⟨by rfl, ?y298⟩) (by assumption) ?r298
        case y298 => (intro w hSw; (try dsimp only at hSw); go_simp; try (with_reducible rfl))
        simp only [List.getElem_toArray, List.getElem_cons_succ, List.getElem_cons_zero, Act.put, List.setIfInBounds_toArray, List.set_cons_zero, List.set_cons_succ]
        refine wpAnyH_take (i := 5) (v := undef) rfl (by kernel_rfl) (by kernel_rfl) (by kernel_rfl) (fun _ _ _ h => h) (Or.inr ⟨by rfl, rfl⟩) (by assumption) ?_
        simp only [List.getElem_toArray, List.getElem_cons_succ, List.getElem_cons_zero, Act.put, List.setIfInBounds_toArray, List.set_cons_zero, List.set_cons_succ]
        refine wpAnyH_take (i := 6) (v := undef) rfl (by kernel_rfl) (by kernel_rfl) (by kernel_rfl) (fun _ _ _ h => h) (Or.inr ⟨by rfl, rfl⟩) (by assumption) ?_
        simp only [List.getElem_toArray, List.getElem_cons_succ, List.getElem_cons_zero, Act.put, List.setIfInBounds_toArray, List.set_cons_zero, List.set_cons_succ]
        refine wpAnyH_take (i := 7) (v := undef) rfl (by kernel_rfl) (by kernel_rfl) (by kernel_rfl) (fun _ _ _ h => h) (Or.inr ⟨by rfl, rfl⟩) (by assumption) ?_
        simp only [List.getElem_toArray, List.getElem_cons_succ, List.getElem_cons_zero, Act.put, List.setIfInBounds_toArray, List.set_cons_zero, List.set_cons_succ]
        refine wpAnyH_take (i := 8) (v := undef) rfl (by kernel_rfl) (by kernel_rfl) (by kernel_rfl) (fun _ _ _ h => h) (Or.inr ⟨by rfl, rfl⟩) (by assumption) ?_
        simp only [List.getElem_toArray, List.getElem_cons_succ, List.getElem_cons_zero, Act.put, List.setIfInBounds_toArray, List.set_cons_zero, List.set_cons_succ]
        refine wpAnyH_take (i := 9) (v := undef) rfl (by kernel_rfl) (by kernel_rfl) (by kernel_rfl) (fun _ _ _ h => h) (Or.inr ⟨by rfl, rfl⟩) (by assumption) ?_
        simp only [List.getElem_toArray, List.getElem_cons_succ, List.getElem_cons_zero, Act.put, List.setIfInBounds_toArray, List.set_cons_zero, List.set_cons_succ]
        refine wpAnyH_take (i := 10) (v := undef) rfl (by kernel_rfl) (by kernel_rfl) (by kernel_rfl) (fun _ _ _ h => h) (Or.inr ⟨by rfl, rfl⟩) (by assumption) ?_
        simp only [List.getElem_toArray, List.getElem_cons_succ, List.getElem_cons_zero, Act.put, List.setIfInBounds_toArray, List.set_cons_zero, List.set_cons_succ]
        refine wpAnyH_take (i := 11) (v := undef) rfl (by kernel_rfl) (by kernel_rfl) (by kernel_rfl) (fun _ _ _ h => h) (Or.inr ⟨by rfl, rfl⟩) (by assumption) ?_
        simp only [List.getElem_toArray, List.getElem_cons_succ, List.getElem_cons_zero, Act.put, List.setIfInBounds_toArray, List.set_cons_zero, List.set_cons_succ]
        refine wpAnyH_take (i := 12) (v := undef) rfl (by kernel_rfl) (by kernel_rfl) (by kernel_rfl) (fun _ _ _ h => h) (Or.inr ⟨by rfl, rfl⟩) (by assumption) ?_
        simp only [List.getElem_toArray, List.getElem_cons_succ, List.getElem_cons_zero, Act.put, List.setIfInBounds_toArray, List.set_cons_zero, List.set_cons_succ]
        refine wpAnyH_take (i := 13) (v := ?v307) rfl (by kernel_rfl) (by kernel_rfl) (by kernel_rfl) (fun _ _ _ h => h) (Or.inl ⟨by rfl, ?y307⟩) (by assumption) ?r307
        case y307 => (intro w hSw; (try dsimp only at hSw); go_simp; try (with_reducible rfl))
        simp only [List.getElem_toArray, List.getElem_cons_succ, List.getElem_cons_zero, Act.put, List.setIfInBounds_toArray, List.set_cons_zero, List.set_cons_succ]
        refine wpAnyH_done (by kernel_rfl) ?_ _
        clear hHeld hb2
        go_wp2
        go_ret
        exact ⟨by rw [E.out]; rfl, HB.out.trans ((HR.out.trans ((HA.out.trans (HB2.out.mono HA.out.size)).mono HR.out.size)).mono HB.out.size)⟩
      | true =>
        have hT := HBK.out.1 (by first | rfl | trivial)
        have hw0 : 0 ≤ who := hT.w0
        have hw1 : who < (nN : Int) := by have h1 := hT.w1; rw [HZ.out.t, HTN.out] at h1; exact h1
        obtain ⟨u, hu⟩ : ∃ u : Nat, (u : Int) = who := ⟨who.toNat, by omega⟩
        subst hu
        have HT := hide hT
        clear hT
        have hwl := wrK_len nN m.lg k
        obtain ⟨x, hx⟩ : ∃ x, x = (wrK nN m.lg k).getD u 0 := ⟨_, rfl⟩
        have hxb := wrK_le nN m.lg k u
        rw [← hx] at hxb
        obtain ⟨hxb0, hxb1⟩ := hxb
        have hmu : ((wrK nN m.lg k).map (Value.int .i64))[u]? = some (.int .i64 x) := by
          rw [List.getElem?_map, List.getElem?_eq_getElem (show u < (wrK nN m.lg k).length by omega), hx]
          simp [List.getD, List.getElem?_eq_getElem (show u < (wrK nN m.lg k).length by omega)]
        have xg := (O1.out.cellAt u (by omega)).trans hmu
        have HXX := hide hx
        clear hx hmu hwl
        by_cases hne : no = x
        · have HK2 : Hid (∀ j, j < k + 1 → okW m nN j) := fun j hj => by
            by_cases e : j = k
            · subst e
              refine ⟨by rw [HX.out]; exact HT.out, ?_⟩
              rw [HX.out]
              show no = (wrK nN m.lg j).getD (u : Int).toNat 0
              rw [Int.toNat_natCast, ← HXX.out]
              exact hne
            · exact HK.out j (by omega)
          have f1 : (no != x) = false := by rw [hne]; simp
          have f2 : (x != no) = false := by rw [hne]; simp
          clear hne
          go_upto_region 5 with fail
          rw [← HW1.out]
          refine wp_region_held_drew (S := (fun wx => wx.cell? ⟨w.heap.size, 0, none⟩ = some (.slice aT nT cT) ∧ wx.cell? ⟨w.heap.size, 1, none⟩ = some (.slice aH nH cH) ∧ wx.cell? ⟨w.heap.size, 2, none⟩ = some (.slice aL nL cL) ∧ wx.cell? ⟨w.heap.size, 3, none⟩ = some (.slice (some ⟨gb, go, none⟩) nG cG) ∧ wx.cell? ⟨w.heap.size, 4, none⟩ = some (.slice aN nN cN) ∧ wx.cell? ⟨wr.heap.size, 0, none⟩ = some (.int .i64 (u : Int)) ∧ wx.cell? ⟨wr.heap.size, 1, none⟩ = some (.int .i64 no) ∧ wx.cell? ⟨wr.heap.size, 2, none⟩ = some (.string t) ∧ wx.cell? ⟨g, u, none⟩ = some (.int .i64 x))) (by kernel_rfl) ⟨r0, r1, r2, r3, r4, x0, x1, x2, xg⟩ (fun hHeld => ?_)
          refine wpAnyH_take (i := 0) (v := ?v308) rfl (by kernel_rfl) (by kernel_rfl) (by kernel_rfl) (fun _ _ _ h => h) (Or.inl ⟨by rfl, ?y308⟩) (by assumption) ?r308
          case y308 => (intro w hSw; (try dsimp only at hSw); go_simp; try (with_reducible rfl))
          simp only [List.getElem_toArray, List.getElem_cons_zero, Act.put, List.setIfInBounds_toArray, List.set_cons_zero, List.set_cons_succ]
          refine wpAnyH_take (i := 1) (v := ?v309) rfl (by kernel_rfl) (by kernel_rfl) (by kernel_rfl) (fun _ _ _ h => h) (Or.inl ⟨by rfl, ?y309⟩) (by assumption) ?r309
          case y309 => (intro w hSw; (try dsimp only at hSw); go_simp; try (with_reducible rfl))
          simp only [List.getElem_toArray, List.getElem_cons_succ, List.getElem_cons_zero, Act.put, List.setIfInBounds_toArray, List.set_cons_zero, List.set_cons_succ]
          refine wpAnyH_ready (rs := [2]) (by kernel_rfl) (by simp) ?_
          refine AllReadyH.cons rfl (fun K hK => ?_) AllReadyH.nil
          simp only [List.getElem_toArray, List.getElem_cons_succ, List.getElem_cons_zero]
          go_simp
          go_at_call 86
          refine (C.out _ ((Below.refl _ _).drew)).mono ?_
          rintro e w2 ⟨rfl, hb2⟩
          have hB2 := (Below.refl W1.heap.size W1).drew.trans (hb2.mono (Nat.le_refl _))
          have HB2 := hide hB2
          clear hB2
          dsimp only
          refine hK.out _ _ ?_ (fun hHeld => ?_)
          · exact keepW9 hHeld hb2
          clear hK K
          try simp only [Act.put, List.setIfInBounds_toArray, List.set_cons_zero, List.set_cons_succ]
          refine wpAnyH_take (i := 3) (v := ?v310) rfl (by kernel_rfl) (by kernel_rfl) (by kernel_rfl) (fun _ _ _ h => h) (Or.inl ⟨by rfl, ?y310⟩) (by assumption) ?r310
          case y310 => (intro w hSw; (try dsimp only at hSw); go_simp; try (with_reducible rfl))
          simp only [List.getElem_toArray, List.getElem_cons_succ, List.getElem_cons_zero, Act.put, List.setIfInBounds_toArray, List.set_cons_zero, List.set_cons_succ]
          refine wpAnyH_take (i := 4) (v := ?v311) rfl (by kernel_rfl) (by kernel_rfl) (by kernel_rfl) (fun _ _ _ h => h) (Or.inl ⟨by rfl, ?y311⟩) (by assumption) ?r311
          case y311 => (intro w hSw; (try dsimp only at hSw); go_simp; try (with_reducible rfl))
          simp only [List.getElem_toArray, List.getElem_cons_succ, List.getElem_cons_zero, Act.put, List.setIfInBounds_toArray, List.set_cons_zero, List.set_cons_succ]
          refine wpAnyH_take (i := 5) (v := ?v312) rfl (by kernel_rfl) (by kernel_rfl) (by kernel_rfl) (fun _ _ _ h => h) (Or.inl ⟨by rfl, ?y312⟩) (by assumption) ?r312
          case y312 => (intro w hSw; (try dsimp only at hSw); go_simp; try (with_reducible rfl))
          simp only [List.getElem_toArray, List.getElem_cons_succ, List.getElem_cons_zero, Act.put, List.setIfInBounds_toArray, List.set_cons_zero, List.set_cons_succ]
          refine wpAnyH_take (i := 6) (v := ?v313) rfl (by kernel_rfl) (by kernel_rfl) (by kernel_rfl) (fun _ _ _ h => h) (Or.inl ⟨by rfl, ?y313⟩) (by assumption) ?r313
          case y313 => (intro w hSw; (try dsimp only at hSw); go_simp; try (with_reducible rfl))
          simp only [List.getElem_toArray, List.getElem_cons_succ, List.getElem_cons_zero, Act.put, List.setIfInBounds_toArray, List.set_cons_zero, List.set_cons_succ]
          refine wpAnyH_take (i := 7) (v := ?v314) rfl (by kernel_rfl) (by kernel_rfl) (by kernel_rfl) (fun _ _ _ h => h) (Or.inl ⟨by rfl, ?y314⟩) (by assumption) ?r314
          case y314 => (intro w hSw; (try dsimp only at hSw); go_simp; try (with_reducible rfl))
          simp only [List.getElem_toArray, List.getElem_cons_succ, List.getElem_cons_zero, Act.put, List.setIfInBounds_toArray, List.set_cons_zero, List.set_cons_succ]
          refine wpAnyH_take (i := 8) (v := ?v315) rfl (by kernel_rfl) (by kernel_rfl) (by kernel_rfl) (fun _ _ _ h => h) (Or.inl ⟨by rfl, ?y315⟩) (by assumption) ?r315
          case y315 => (intro w hSw; (try dsimp only at hSw); go_simp; try (with_reducible rfl))
          simp only [List.getElem_toArray, List.getElem_cons_succ, List.getElem_cons_zero, Act.put, List.setIfInBounds_toArray, List.set_cons_zero, List.set_cons_succ]
          refine wpAnyH_take (i := 9) (v := ?v316) rfl (by kernel_rfl) (by kernel_rfl) (by kernel_rfl) (fun _ _ _ h => h) (Or.inl ⟨by rfl, ?y316⟩) (by assumption) ?r316
          case y316 => (intro w hSw; (try dsimp only at hSw); go_simp; try (with_reducible rfl))
          simp only [List.getElem_toArray, List.getElem_cons_succ, List.getElem_cons_zero, Act.put, List.setIfInBounds_toArray, List.set_cons_zero, List.set_cons_succ]
          refine wpAnyH_take (i := 10) (v := ?v317) rfl (by kernel_rfl) (by kernel_rfl) (by kernel_rfl) (fun _ _ _ h => h) (Or.inl ⟨by rfl, ?y317⟩) (by assumption) ?r317
          case y317 => (intro w hSw; (try dsimp only at hSw); go_simp; try (with_reducible rfl))
          simp only [List.getElem_toArray, List.getElem_cons_succ, List.getElem_cons_zero, Act.put, List.setIfInBounds_toArray, List.set_cons_zero, List.set_cons_succ]
          refine wpAnyH_take (i := 11) (v := ?v318) rfl (by kernel_rfl) (by kernel_rfl) (by kernel_rfl) (fun _ _ _ h => h) (Or.inl ⟨by rfl, ?y318⟩) (by assumption) ?r318
          case y318 => (intro w hSw; (try dsimp only at hSw); go_simp; try (with_reducible rfl))
          simp only [List.getElem_toArray, List.getElem_cons_succ, List.getElem_cons_zero, Act.put, List.setIfInBounds_toArray, List.set_cons_zero, List.set_cons_succ]
          refine wpAnyH_take (i := 12) (v := ?v319) rfl (by kernel_rfl) (by kernel_rfl) (by kernel_rfl) (fun _ _ _ h => h) (Or.inl ⟨by rfl, ?y319⟩) (by assumption) ?r319
          case y319 => (intro w hSw; (try dsimp only at hSw); go_simp; try (with_reducible rfl))
          simp only [List.getElem_toArray, List.getElem_cons_succ, List.getElem_cons_zero, Act.put, List.setIfInBounds_toArray, List.set_cons_zero, List.set_cons_succ]
          refine wpAnyH_take (i := 13) (v := ?v320) rfl (by kernel_rfl) (by kernel_rfl) (by kernel_rfl) (fun _ _ _ h => h) (Or.inl ⟨by rfl, ?y320⟩) (by assumption) ?r320
          case y320 => (intro w hSw; (try dsimp only at hSw); go_simp; try (with_reducible rfl))
          simp only [List.getElem_toArray, List.getElem_cons_succ, List.getElem_cons_zero, Act.put, List.setIfInBounds_toArray, List.set_cons_zero, List.set_cons_succ]
          refine wpAnyH_done (by kernel_rfl) ?_ _
          obtain ⟨a0, a1, a2, a3, a4, a5, a6, a7, a8⟩ := hHeld
          have o2 := own_belO O1.out HB2.out
          have fz := o2.frozenAt u
          have hst := o2.stored u (.int .i64 (x + 1))
          have R2 : Hid ((w2.setCell ⟨g, u, none⟩ (.int .i64 (x + 1))).ownsRow g 3 1 (.slice (some ⟨g, 0, none⟩) nN nN) nN ((wrK nN m.lg (k + 1)).map (Value.int .i64))) := by
            have e : wrK nN m.lg (k + 1) = (wrK nN m.lg k).set u (x + 1) := by
              show (wrK nN m.lg k).set (m.lg.getD k e3).1.toNat ((wrK nN m.lg k).getD (m.lg.getD k e3).1.toNat 0 + 1) = _
              rw [HX.out]
              show (wrK nN m.lg k).set (u : Int).toNat ((wrK nN m.lg k).getD (u : Int).toNat 0 + 1) = _
              rw [Int.toNat_natCast, ← HXX.out]
            rw [e, List.map_set]
            exact hide hst.1
          have B2 : Hid (Below W0.heap.size W0 (w2.setCell ⟨g, u, none⟩ (.int .i64 (x + 1)))) := hide ((HR.out.trans ((HA.out.trans (HB2.out.mono HA.out.size)).mono HR.out.size)).setCell (p := ⟨g, u, none⟩) (by rw [HGE.out]; exact Nat.le_refl _) _)
          clear o2 hst hb2 f1 f2
          go_wp2
          go_roundw
          case rel => exact ⟨k + 1, by omega, by go_num, HK2.out, R2, B2⟩
          case measure => simp [intOf]; omega
        · have f1 : (no != x) = true := by simpa using hne
          have f2 : (x != no) = true := by simpa using (fun h : x = no => hne h.symm)
          have f3 : ¬ x = no := fun h => hne h.symm
          have E : Hid (bb = false) := bool_no10 HBB.out (fun h => hne (by
            have h1 := (h.w k (by rw [HZ.out.g]; exact hlt)).n
            rw [HX.out, HZ.out.n] at h1
            have h2 : no = (wrK nN m.lg k).getD (u : Int).toNat 0 := h1
            rw [Int.toNat_natCast, ← HXX.out] at h2
            exact h2))
          go_upto_region 5 with fail
          rw [← HW1.out]
          refine wp_region_held_drew (S := (fun wx => wx.cell? ⟨w.heap.size, 0, none⟩ = some (.slice aT nT cT) ∧ wx.cell? ⟨w.heap.size, 1, none⟩ = some (.slice aH nH cH) ∧ wx.cell? ⟨w.heap.size, 2, none⟩ = some (.slice aL nL cL) ∧ wx.cell? ⟨w.heap.size, 3, none⟩ = some (.slice (some ⟨gb, go, none⟩) nG cG) ∧ wx.cell? ⟨w.heap.size, 4, none⟩ = some (.slice aN nN cN) ∧ wx.cell? ⟨wr.heap.size, 0, none⟩ = some (.int .i64 (u : Int)) ∧ wx.cell? ⟨wr.heap.size, 1, none⟩ = some (.int .i64 no) ∧ wx.cell? ⟨wr.heap.size, 2, none⟩ = some (.string t) ∧ wx.cell? ⟨g, u, none⟩ = some (.int .i64 x))) (by kernel_rfl) ⟨r0, r1, r2, r3, r4, x0, x1, x2, xg⟩ (fun hHeld => ?_)
          refine wpAnyH_take (i := 0) (v := ?v321) rfl (by kernel_rfl) (by kernel_rfl) (by kernel_rfl) (fun _ _ _ h => h) (Or.inl ⟨by rfl, ?y321⟩) (by assumption) ?r321
          case y321 => (intro w hSw; (try dsimp only at hSw); go_simp; try (with_reducible rfl))
          simp only [List.getElem_toArray, List.getElem_cons_zero, Act.put, List.setIfInBounds_toArray, List.set_cons_zero, List.set_cons_succ]
          refine wpAnyH_take (i := 1) (v := ?v322) rfl (by kernel_rfl) (by kernel_rfl) (by kernel_rfl) (fun _ _ _ h => h) (Or.inl ⟨by rfl, ?y322⟩) (by assumption) ?r322
          case y322 => (intro w hSw; (try dsimp only at hSw); go_simp; try (with_reducible rfl))
          simp only [List.getElem_toArray, List.getElem_cons_succ, List.getElem_cons_zero, Act.put, List.setIfInBounds_toArray, List.set_cons_zero, List.set_cons_succ]
          refine wpAnyH_ready (rs := [2]) (by kernel_rfl) (by simp) ?_
          refine AllReadyH.cons rfl (fun K hK => ?_) AllReadyH.nil
          simp only [List.getElem_toArray, List.getElem_cons_succ, List.getElem_cons_zero]
          go_simp
          go_at_call 86
          refine (C.out _ ((Below.refl _ _).drew)).mono ?_
          rintro e w2 ⟨rfl, hb2⟩
          have hB2 := (Below.refl W1.heap.size W1).drew.trans (hb2.mono (Nat.le_refl _))
          have HB2 := hide hB2
          clear hB2
          dsimp only
          refine hK.out _ _ ?_ (fun hHeld => ?_)
          · exact keepW9 hHeld hb2
          clear hK K
          try simp only [Act.put, List.setIfInBounds_toArray, List.set_cons_zero, List.set_cons_succ]
          refine wpAnyH_take (i := 3) (v := ?v323) rfl (by kernel_rfl) (by kernel_rfl) (by kernel_rfl) (fun _ _ _ h => h) (Or.inl ⟨by rfl, ?y323⟩) (by assumption) ?r323
          case y323 => (intro w hSw; (try dsimp only at hSw); go_simp; try (with_reducible rfl))
          simp only [List.getElem_toArray, List.getElem_cons_succ, List.getElem_cons_zero, Act.put, List.setIfInBounds_toArray, List.set_cons_zero, List.set_cons_succ]
          refine wpAnyH_take (i := 4) (v := ?v324) rfl (by kernel_rfl) (by kernel_rfl) (by kernel_rfl) (fun _ _ _ h => h) (Or.inl ⟨by rfl, ?y324⟩) (by assumption) ?r324
          case y324 => (intro w hSw; (try dsimp only at hSw); go_simp; try (with_reducible rfl))
          simp only [List.getElem_toArray, List.getElem_cons_succ, List.getElem_cons_zero, Act.put, List.setIfInBounds_toArray, List.set_cons_zero, List.set_cons_succ]
          refine wpAnyH_take (i := 5) (v := ?v325) rfl (by kernel_rfl) (by kernel_rfl) (by kernel_rfl) (fun _ _ _ h => h) (Or.inl ⟨by rfl, ?y325⟩) (by assumption) ?r325
          case y325 => (intro w hSw; (try dsimp only at hSw); go_simp; try (with_reducible rfl))
          simp only [List.getElem_toArray, List.getElem_cons_succ, List.getElem_cons_zero, Act.put, List.setIfInBounds_toArray, List.set_cons_zero, List.set_cons_succ]
          refine wpAnyH_take (i := 6) (v := ?v326) rfl (by kernel_rfl) (by kernel_rfl) (by kernel_rfl) (fun _ _ _ h => h) (Or.inl ⟨by rfl, ?y326⟩) (by assumption) ?r326
          case y326 => (intro w hSw; (try dsimp only at hSw); go_simp; try (with_reducible rfl))
          simp only [List.getElem_toArray, List.getElem_cons_succ, List.getElem_cons_zero, Act.put, List.setIfInBounds_toArray, List.set_cons_zero, List.set_cons_succ]
          refine wpAnyH_take (i := 7) (v := ?v327) rfl (by kernel_rfl) (by kernel_rfl) (by kernel_rfl) (fun _ _ _ h => h) (Or.inl ⟨by rfl, ?y327⟩) (by assumption) ?r327
          case y327 => (intro w hSw; (try dsimp only at hSw); go_simp; try (with_reducible rfl))
          simp only [List.getElem_toArray, List.getElem_cons_succ, List.getElem_cons_zero, Act.put, List.setIfInBounds_toArray, List.set_cons_zero, List.set_cons_succ]
          refine wpAnyH_take (i := 8) (v := ?v328) rfl (by kernel_rfl) (by kernel_rfl) (by kernel_rfl) (fun _ _ _ h => h) (Or.inl ⟨by rfl, ?y328⟩) (by assumption) ?r328
          case y328 => (intro w hSw; (try dsimp only at hSw); go_simp; try (with_reducible rfl))
          simp only [List.getElem_toArray, List.getElem_cons_succ, List.getElem_cons_zero, Act.put, List.setIfInBounds_toArray, List.set_cons_zero, List.set_cons_succ]
          refine wpAnyH_take (i := 9) (v := ?v329) rfl (by kernel_rfl) (by kernel_rfl) (by kernel_rfl) (fun _ _ _ h => h) (Or.inl ⟨by rfl, ?y329⟩) (by assumption) ?r329
          case y329 => (intro w hSw; (try dsimp only at hSw); go_simp; try (with_reducible rfl))
          simp only [List.getElem_toArray, List.getElem_cons_succ, List.getElem_cons_zero, Act.put, List.setIfInBounds_toArray, List.set_cons_zero, List.set_cons_succ]
          refine wpAnyH_take (i := 10) (v := ?v330) rfl (by kernel_rfl) (by kernel_rfl) (by kernel_rfl) (fun _ _ _ h => h) (Or.inl ⟨by rfl, ?y330⟩) (by assumption) ?r330
          case y330 => (intro w hSw; (try dsimp only at hSw); go_simp; try (with_reducible rfl))
          simp only [List.getElem_toArray, List.getElem_cons_succ, List.getElem_cons_zero, Act.put, List.setIfInBounds_toArray, List.set_cons_zero, List.set_cons_succ]
          refine wpAnyH_take (i := 11) (v := ?v331) rfl (by kernel_rfl) (by kernel_rfl) (by kernel_rfl) (fun _ _ _ h => h) (Or.inl ⟨by rfl, ?y331⟩) (by assumption) ?r331
          case y331 => (intro w hSw; (try dsimp only at hSw); go_simp; try (with_reducible rfl))
          simp only [List.getElem_toArray, List.getElem_cons_succ, List.getElem_cons_zero, Act.put, List.setIfInBounds_toArray, List.set_cons_zero, List.set_cons_succ]
          refine wpAnyH_take (i := 12) (v := ?v332) rfl (by kernel_rfl) (by kernel_rfl) (by kernel_rfl) (fun _ _ _ h => h) (Or.inl ⟨by rfl, ?y332⟩) (by assumption) ?r332
          case y332 => (intro w hSw; (try dsimp only at hSw); go_simp; try (with_reducible rfl))
          simp only [List.getElem_toArray, List.getElem_cons_succ, List.getElem_cons_zero, Act.put, List.setIfInBounds_toArray, List.set_cons_zero, List.set_cons_succ]
          refine wpAnyH_take (i := 13) (v := ?v333) rfl (by kernel_rfl) (by kernel_rfl) (by kernel_rfl) (fun _ _ _ h => h) (Or.inl ⟨by rfl, ?y333⟩) (by assumption) ?r333
          case y333 => (intro w hSw; (try dsimp only at hSw); go_simp; try (with_reducible rfl))
          simp only [List.getElem_toArray, List.getElem_cons_succ, List.getElem_cons_zero, Act.put, List.setIfInBounds_toArray, List.set_cons_zero, List.set_cons_succ]
          refine wpAnyH_done (by kernel_rfl) ?_ _
          clear hHeld hb2
          go_wp2
          go_ret
          exact ⟨by rw [E.out]; rfl, HB.out.trans ((HR.out.trans ((HA.out.trans (HB2.out.mono HA.out.size)).mono HR.out.size)).mono HB.out.size)⟩
    · obtain rfl : k = nG := by omega
      have hltI : ¬ (k : Int) < (k : Int) := by omega
      have EQ : Hid (bb = true ↔ wrK nN m.lg k = m.nx) := HBB.out.trans ⟨fun h => by have h1 := h.e; rw [HZ.out.n, HZ.out.g] at h1; exact h1, fun h => ⟨fun j hj => by rw [HZ.out.n]; exact HK.out j (by have := HZ.out.g; omega), by rw [HZ.out.n, HZ.out.g]; exact h⟩⟩
      have gr := (HR.out.block w.heap.size HGG).trans HG.out
      obtain ⟨r0, r1, r2, r3, r4⟩ := blk5 gr
      have C := hide (equal_any (some ⟨g, 0, none⟩) aN (wrK nN m.lg k) m.nx nN nN nN cN wr (wrK_len _ _ _) HZ.out.n (sl_of_own HO.out) (F0.out.below HR.out).n (by omega) (by omega) bb EQ.out)
      clear gr EQ
      go_wp2_with fail
      refine C.out.mono ?_
      rintro e w3 ⟨rfl, hb3⟩
      have B3 := hide (HB.out.trans ((HR.out.trans (hb3.mono HR.out.size)).mono HB.out.size))
      clear hb3
      go_wp2
      go_ret
      exact ⟨rfl, B3.out⟩
end Go.Proofs.Ythmekhhfihjclag.L10

namespace Go.Proofs.Ythmekhhfihjclag.L10
open Go.RowKit L1 Own Str Nte Tri
set_option linter.unusedVariables false

set_option maxRecDepth 100000 in
set_option maxHeartbeats 4000000 in
theorem goodTell_any (aT : Option Addr) (nT cT : Nat) (aH : Option Addr) (nH cH : Nat) (aL : Option Addr) (nL cL : Nat) (aG : Option Addr) (nG cG : Nat) (aN : Option Addr) (nN cN : Nat) (m : Tm) (w : World) (hz : TlZ m nT nH nL nG nN) (hF : TlF w aT aH aL aG aN m) (bb : Bool) (hbb : bb = true ↔ GoodT m) :
    Calls Try.prog 12 #[tlV aT nT cT aH nH cH aL nL cL aG nG cG aN nN cN] w fun e w' => e = .returned (.bool bb) ∧ Below w.heap.size w w' := by
  have BX := (Below.refl w.heap.size w).alloc (Nat.le_refl _) (tlO aT nT cT aH nH cH aL nL cL aG nG cG aN nN cN)
  have g0 := blk_newO w (tlO aT nT cT aH nH cH aL nL cL aG nG cG aN nN cN)
  obtain ⟨W0, hW0⟩ : ∃ W0, W0 = w.alloc (tlO aT nT cT aH nH cH aL nL cL aG nG cG aN nN cN) := ⟨_, rfl⟩
  rw [← hW0] at BX g0
  have HW := hide hW0
  have F0 := hide (hF.below BX)
  have HB := hide BX
  have HG := hide g0
  have HBB := hide hbb
  have HZ := hide hz
  obtain ⟨k0, k1, k2, k3, k4⟩ := blk5 g0
  clear hW0 g0 hbb hz hF BX
  obtain ⟨b1, hb1⟩ := dec_ex (GoodA m)
  obtain ⟨b2, hb2⟩ := dec_ex (GoodL m)
  obtain ⟨b3, hb3⟩ := dec_ex (GoodW m)
  have C1 := hide (goodTellers_any aT nT cT aH nH cH aL nL cL aG nG cG aN nN cN m W0 HZ.out F0.out b1 hb1)
  have C2 := hide (fun wx (hb : Below W0.heap.size W0 wx) => goodLine_any aT nT cT aH nH cH aL nL cL aG nG cG aN nN cN m wx HZ.out (F0.out.below hb) b2 hb2)
  have C3 := hide (fun (hTN : nT = nN) wx (hb : Below W0.heap.size W0 wx) => goodWritten_any aT nT cT aH nH cH aL nL cL aG nG cG aN nN cN m wx HZ.out (F0.out.below hb) hTN b3 hb3)
  have H1 := hide hb1
  have H2 := hide hb2
  have H3 := hide hb3
  clear hb1 hb2 hb3
  go_enter Try.func12, Try.ntmps12
  go_upto_region 1 with fail
  rw [← HW.out]
  go_wp2_with fail
  refine C1.out.mono ?_
  rintro e w1 ⟨rfl, hx⟩
  have B1 := hide hx
  have g1 := (hx.block w.heap.size (Array.getElem?_eq_some_iff.1 HG.out).1).trans HG.out
  clear hx k0 k1 k2 k3 k4
  obtain ⟨k0, k1, k2, k3, k4⟩ := blk5 g1
  clear g1
  cases b1 with
  | false =>
    have E : Hid (bb = false) := bool_no10 HBB.out (fun h => by have := H1.out.2 h.a; cases this)
    go_wp2
    go_ret
    exact ⟨by rw [E.out]; rfl, HB.out.trans (B1.out.mono HB.out.size)⟩
  | true =>
    have hA := H1.out.1 (by first | rfl | trivial)
    have HTN : Hid (nT = nN) := hide (by have := hA.x; have := HZ.out.t; have := HZ.out.n; omega)
    have HA := hide hA
    clear hA
    go_wp2_with fail
    refine (C2.out _ B1.out).mono ?_
    rintro e w2 ⟨rfl, hx⟩
    have B2 := hide (B1.out.trans (hx.mono B1.out.size))
    have g1 := (B2.out.block w.heap.size (Array.getElem?_eq_some_iff.1 HG.out).1).trans HG.out
    clear hx k0 k1 k2 k3 k4
    obtain ⟨k0, k1, k2, k3, k4⟩ := blk5 g1
    clear g1
    cases b2 with
    | false =>
      have E : Hid (bb = false) := bool_no10 HBB.out (fun h => by have := H2.out.2 h.l; cases this)
      go_wp2
      go_ret
      exact ⟨by rw [E.out]; rfl, HB.out.trans (B2.out.mono HB.out.size)⟩
    | true =>
      have HL := hide (H2.out.1 (by first | rfl | trivial))
      go_wp2_with fail
      refine (C3.out HTN.out _ B2.out).mono ?_
      rintro e w3 ⟨rfl, hx⟩
      have B3 := hide (B2.out.trans (hx.mono B2.out.size))
      clear hx
      have E : Hid (bb = b3) := by
        cases b3 with
        | false => exact bool_no10 HBB.out (fun h => by have := H3.out.2 h.w; cases this)
        | true => exact HBB.out.2 ⟨HA.out, HL.out, H3.out.1 (by first | rfl | trivial)⟩
      go_wp2
      go_ret
      exact ⟨by rw [E.out]; rfl, HB.out.trans (B3.out.mono HB.out.size)⟩
end Go.Proofs.Ythmekhhfihjclag.L10

namespace Go.Proofs.Ythmekhhfihjclag.L10
open Go.RowKit L1 Own Str Nte Tri
set_option linter.unusedVariables false

set_option maxRecDepth 100000 in
set_option maxHeartbeats 8000000 in
theorem written_any (aT : Option Addr) (nT cT : Nat) (aH : Option Addr) (nH cH : Nat) (aL : Option Addr) (nL cL : Nat) (aG : Option Addr) (nG cG : Nat) (aN : Option Addr) (nN cN : Nat) (m : Tm) (w : World) (hz : TlZ m nT nH nL nG nN) (hF : TlF w aT aH aL aG aN m) (who : Int) (L : List ByteArray) (ok : Bool) (hv : WrIs m who L ok) :
    Calls Try.prog 30 #[tlV aT nT cT aH nH cH aL nL cL aG nG cG aN nN cN, .int .i64 who] w fun e w' => RetL w L ok e w' := by
  have bT : nT ≤ 1048576 := hz.bt
  have bG : nG ≤ 1048576 := hz.bg
  have BX := (Below.refl w.heap.size w).alloc (Nat.le_refl _) (tlO aT nT cT aH nH cH aL nL cL aG nG cG aN nN cN)
  have g0 := blk_newO w (tlO aT nT cT aH nH cH aL nL cL aG nG cG aN nN cN)
  obtain ⟨W0, hW0⟩ : ∃ W0, W0 = w.alloc (tlO aT nT cT aH nH cH aL nL cL aG nG cG aN nN cN) := ⟨_, rfl⟩
  have hs0 : W0.heap.size = w.heap.size + 1 := by rw [hW0]; simp
  rw [← hW0] at BX g0
  have HW := hide hW0
  have F0 := hide (hF.below BX)
  have HB := hide BX
  have HG := hide g0
  have HGL : Hid (w.heap.size < W0.heap.size) := hide (by omega)
  have HV := hide hv
  have HZ := hide hz
  obtain ⟨k0, k1, k2, k3, k4⟩ := blk5 g0
  clear hW0 g0 hv hz hF BX hs0
  obtain ⟨b1, hb1⟩ := dec_ex (GoodT m)
  obtain ⟨b2, hb2⟩ := dec_ex (0 ≤ who ∧ who < (nT : Int))
  have C1 := hide (goodTell_any aT nT cT aH nH cH aL nL cL aG nG cG aN nN cN m W0 HZ.out F0.out b1 hb1)
  have H1 := hide hb1
  have H2 := hide hb2
  have C2 := hide (fun wx => isBelow_any who (nT : Int) wx b2 hb2)
  clear hb1 hb2
  go_enter Try.func30, Try.ntmps30
  go_upto_region 1 with fail
  rw [← HW.out]
  go_wp2_with fail
  refine C1.out.mono ?_
  rintro e w1 ⟨rfl, hx⟩
  have B1 := hide hx
  have g1 := (hx.block w.heap.size HGL.out).trans HG.out
  clear hx k0 k1 k2 k3 k4
  obtain ⟨k0, k1, k2, k3, k4⟩ := blk5 g1
  clear g1
  cases b1 with
  | false =>
    obtain ⟨rfl, rfl⟩ := HV.out.no (fun h => by have := H1.out.2 h.1; cases this)
    go_wp2
    go_ret2
    exact retL_none (HB.out.trans (B1.out.mono HB.out.size))
  | true =>
    have HGD := hide (H1.out.1 (by first | rfl | trivial))
    go_wp2_with fail
    refine (C2.out _).mono ?_
    rintro e wq ⟨rfl, rfl⟩
    have B2 := B1
    cases b2 with
    | false =>
      obtain ⟨rfl, rfl⟩ := HV.out.no (fun h => by have := H2.out.2 ⟨h.2.1, by have h3 := h.2.2; rw [HZ.out.t] at h3; exact h3⟩; cases this)
      go_wp2
      go_ret2
      exact retL_none (HB.out.trans (B2.out.mono HB.out.size))
    | true =>
      have h12 := H2.out.1 (by first | rfl | trivial)
      obtain ⟨hL, rfl⟩ := HV.out.yes ⟨HGD.out, h12.1, by rw [HZ.out.t]; exact h12.2⟩
      rw [HZ.out.g] at hL
      have HL := hide hL
      clear hL h12
      obtain ⟨i0, hi, hz0, hz1, hz2⟩ := info_parts info_strS
      go_wp2
      clear k0 k1 k2 k3 k4
      go_loopw [6, 23] (fun o i wr => ∃ (k : Nat) (n : Nat) (da : Option Addr) (dc : Nat), k ≤ nG ∧ i = .int .i64 k ∧ o = .slice da n dc ∧ Hid (n = (wtK who m.lg k).length) ∧ Hid (wr.ownsRow W0.heap.size 9 1 (.slice da n dc) n (mapS (wtK who m.lg k))) ∧ Hid (Below W0.heap.size W0 wr)) (fun _ i _ => nG - (intOf i).toNat)
      case atStart => exact ⟨0, 0, none, 0, Nat.zero_le _, rfl, rfl, hide rfl, hide (World.ownsRow_nil _ _ _ _), B2⟩
      case round =>
        obtain ⟨k, n, da, dc, hk, rfl, rfl, HNN, HO, HR⟩ := hrel
        by_cases hlt : k < nG
        · obtain ⟨gb, go, ea, p0, p1, p2⟩ := F0.out.g k (by rw [HZ.out.g]; exact hlt)
          subst ea
          have q0 := (HR.out.cell (p := ⟨gb, go + k * 3, none⟩) (blk_lt p0)).trans p0
          have q1 := (HR.out.cell (p := ⟨gb, go + k * 3 + 1, none⟩) (blk_lt p1)).trans p1
          have q2 := (HR.out.cell (p := ⟨gb, go + k * 3 + 2, none⟩) (blk_lt p2)).trans p2
          have hltI : (k : Int) < (nG : Int) := by omega
          obtain ⟨xw, hxw⟩ : ∃ x, x = (m.lg.getD k e3).1 := ⟨_, rfl⟩
          obtain ⟨xn, hxn⟩ : ∃ x, x = (m.lg.getD k e3).2.1 := ⟨_, rfl⟩
          obtain ⟨t, ht⟩ : ∃ x, x = (m.lg.getD k e3).2.2 := ⟨_, rfl⟩
          rw [← hxw] at q0
          rw [← hxn] at q1
          rw [← ht] at q2
          have HX : Hid (m.lg.getD k e3 = (xw, xn, t)) := by show _ = _; rw [hxw, hxn, ht]
          have A1 := (Below.refl wr.heap.size wr).alloc (Nat.le_refl _) (.cells #[.int .i64 xw, .int .i64 xn, .string t] 75 (0, 0))
          have gx := blk_newO wr (.cells #[.int .i64 xw, .int .i64 xn, .string t] 75 (0, 0))
          obtain ⟨W1, hW1⟩ : ∃ W1, W1 = wr.alloc (.cells #[.int .i64 xw, .int .i64 xn, .string t] 75 (0, 0)) := ⟨_, rfl⟩
          rw [← hW1] at A1 gx
          have x0 : W1.cell? ⟨wr.heap.size, 0, none⟩ = some (.int .i64 xw) := by simp [World.cell?, gx]
          have x1 : W1.cell? ⟨wr.heap.size, 1, none⟩ = some (.int .i64 xn) := by simp [World.cell?, gx]
          have x2 : W1.cell? ⟨wr.heap.size, 2, none⟩ = some (.string t) := by simp [World.cell?, gx]
          have HW1 := hide hW1
          have HA := hide (HR.out.trans (A1.mono HR.out.size))
          have O1 := hide (own_belO HO.out A1)
          have hnb : n ≤ 1048576 := by have h1 := wtK_len who m.lg k; have h2 := HNN.out; omega
          clear p0 p1 p2 hxw hxn ht gx A1 hW1
          by_cases e : xw = who
          · have HEW := hide e
            have f1 : (xw == who) = true := by rw [e]; simp
            clear e
            have O2 := hide (own_belO O1.out ((Below.refl W1.heap.size W1).alloc (Nat.le_refl _) (.cells #[.string t] 9)))
            have hb4 : W0.heap.size ≤ (W1.alloc (.cells #[.string t] 9)).heap.size := by have h1 := HA.out.size; simp; omega
            go_upto_region 7 with fail
            rw [← HW1.out]
            go_wp2_with (first
              | (at_builtin; refine wpList_append_own_at _ rfl _ _ 58 rfl W0.heap.size 9 i0 (.string ByteArray.empty) 1 16 Try.underlying58 hi hz0 hz1 hz2 rfl (by decide) (.slice da n dc) n _ rfl O2.out ⟨W1.heap.size, 0, none⟩ 1 1 [.string t] rfl rfl (cell_one_newO _ _ _) (by intro u hu; simp at hu; subst hu; rfl) (by unfold maxLen; omega) (by omega) hb4 ?_)
              | go_in)
            intro v6 w6 hown6 hg6 _ hb6
            obtain ⟨a6, c6, rfl⟩ : ∃ a c, v6 = .slice a (n + 1) c := by
              rcases hown6.2 with ⟨_, h0⟩ | ⟨g, cap, cur, hv, _⟩
              · omega
              · exact ⟨_, cap, hv⟩
            have eK : wtK who m.lg (k + 1) = wtK who m.lg k ++ [t] := by
              show (if (m.lg.getD k e3).1 = who then wtK who m.lg k ++ [(m.lg.getD k e3).2.2] else wtK who m.lg k) = _
              rw [HX.out]
              rw [if_pos HEW.out]
            have R1 : Hid (n + 1 = (wtK who m.lg (k + 1)).length) := hide (by rw [eK]; simp; exact HNN.out)
            have R2 : Hid (w6.ownsRow W0.heap.size 9 1 (.slice a6 (n + 1) c6) (n + 1) (mapS (wtK who m.lg (k + 1)))) := hide (by rw [eK]; show w6.ownsRow _ _ _ _ _ ((wtK who m.lg k ++ [t]).map Value.string); rw [List.map_append]; exact hown6)
            have R3 : Hid (Below W0.heap.size W0 w6) := hide ((HA.out.alloc HA.out.size (.cells #[.string t] 9)).grown hg6 hb4 (fun q hq => own_ge O2.out q hq))
            clear hown6 hg6 hb6 eK O2 O1
            go_wp2
            go_roundw
            case rel => exact ⟨k + 1, n + 1, a6, c6, by omega, by go_num, rfl, R1, R2, R3⟩
            case measure => simp [intOf]; omega
          · have f1 : (xw == who) = false := by simpa using e
            have eK : wtK who m.lg (k + 1) = wtK who m.lg k := by
              show (if (m.lg.getD k e3).1 = who then wtK who m.lg k ++ [(m.lg.getD k e3).2.2] else wtK who m.lg k) = _
              rw [HX.out]
              rw [if_neg e]
            have R1 : Hid (n = (wtK who m.lg (k + 1)).length) := hide (by rw [eK]; exact HNN.out)
            have R2 : Hid (W1.ownsRow W0.heap.size 9 1 (.slice da n dc) n (mapS (wtK who m.lg (k + 1)))) := hide (by rw [eK]; exact O1.out)
            clear eK
            go_upto_region 7 with fail
            rw [← HW1.out]
            go_wp2
            go_roundw
            case rel => exact ⟨k + 1, n, da, dc, by omega, by go_num, rfl, R1, R2, HA⟩
            case measure => simp [intOf]; omega
        · obtain rfl : k = nG := by omega
          have hltI : ¬ (k : Int) < (k : Int) := by omega
          go_wp2
          go_ret2
          have hn := HNN.out
          rw [← HL.out] at hn
          refine ⟨da, dc, by rw [← hn]; rfl, ?_, HB.out.trans (HR.out.mono HB.out.size)⟩
          have h := HO.out
          rw [← HL.out, hn] at h
          exact own_from (own_zero h) (fun q hq => Nat.le_of_lt (Nat.lt_of_lt_of_le HGL.out (own_ge h q hq)))
end Go.Proofs.Ythmekhhfihjclag.L10

namespace Go.Proofs.Ythmekhhfihjclag.L10
open Go.RowKit L1 Own Str Nte Tri
set_option linter.unusedVariables false

theorem keepV8 {wa wb : World} {B0 B1 B2 B3 B4 B5 B6 B7 O0 O1 O2 O3 O4 O5 O6 O7 : Nat} {v0 v1 v2 v3 v4 v5 v6 v7 : Value} (h : wa.cell? ⟨B0, O0, none⟩ = some v0 ∧ wa.cell? ⟨B1, O1, none⟩ = some v1 ∧ wa.cell? ⟨B2, O2, none⟩ = some v2 ∧ wa.cell? ⟨B3, O3, none⟩ = some v3 ∧ wa.cell? ⟨B4, O4, none⟩ = some v4 ∧ wa.cell? ⟨B5, O5, none⟩ = some v5 ∧ wa.cell? ⟨B6, O6, none⟩ = some v6 ∧ wa.cell? ⟨B7, O7, none⟩ = some v7) (hb : Below wa.heap.size wa wb) : wb.cell? ⟨B0, O0, none⟩ = some v0 ∧ wb.cell? ⟨B1, O1, none⟩ = some v1 ∧ wb.cell? ⟨B2, O2, none⟩ = some v2 ∧ wb.cell? ⟨B3, O3, none⟩ = some v3 ∧ wb.cell? ⟨B4, O4, none⟩ = some v4 ∧ wb.cell? ⟨B5, O5, none⟩ = some v5 ∧ wb.cell? ⟨B6, O6, none⟩ = some v6 ∧ wb.cell? ⟨B7, O7, none⟩ = some v7 :=
  ⟨(hb.cell (p := ⟨B0, O0, none⟩) (blk_lt h.1)).trans h.1, (hb.cell (p := ⟨B1, O1, none⟩) (blk_lt h.2.1)).trans h.2.1, (hb.cell (p := ⟨B2, O2, none⟩) (blk_lt h.2.2.1)).trans h.2.2.1, (hb.cell (p := ⟨B3, O3, none⟩) (blk_lt h.2.2.2.1)).trans h.2.2.2.1, (hb.cell (p := ⟨B4, O4, none⟩) (blk_lt h.2.2.2.2.1)).trans h.2.2.2.2.1, (hb.cell (p := ⟨B5, O5, none⟩) (blk_lt h.2.2.2.2.2.1)).trans h.2.2.2.2.2.1, (hb.cell (p := ⟨B6, O6, none⟩) (blk_lt h.2.2.2.2.2.2.1)).trans h.2.2.2.2.2.2.1, (hb.cell (p := ⟨B7, O7, none⟩) (blk_lt h.2.2.2.2.2.2.2)).trans h.2.2.2.2.2.2.2⟩
theorem keepV9 {wa wb : World} {B0 B1 B2 B3 B4 B5 B6 B7 B8 O0 O1 O2 O3 O4 O5 O6 O7 O8 : Nat} {v0 v1 v2 v3 v4 v5 v6 v7 v8 : Value} (h : wa.cell? ⟨B0, O0, none⟩ = some v0 ∧ wa.cell? ⟨B1, O1, none⟩ = some v1 ∧ wa.cell? ⟨B2, O2, none⟩ = some v2 ∧ wa.cell? ⟨B3, O3, none⟩ = some v3 ∧ wa.cell? ⟨B4, O4, none⟩ = some v4 ∧ wa.cell? ⟨B5, O5, none⟩ = some v5 ∧ wa.cell? ⟨B6, O6, none⟩ = some v6 ∧ wa.cell? ⟨B7, O7, none⟩ = some v7 ∧ wa.cell? ⟨B8, O8, none⟩ = some v8) (hb : Below wa.heap.size wa wb) : wb.cell? ⟨B0, O0, none⟩ = some v0 ∧ wb.cell? ⟨B1, O1, none⟩ = some v1 ∧ wb.cell? ⟨B2, O2, none⟩ = some v2 ∧ wb.cell? ⟨B3, O3, none⟩ = some v3 ∧ wb.cell? ⟨B4, O4, none⟩ = some v4 ∧ wb.cell? ⟨B5, O5, none⟩ = some v5 ∧ wb.cell? ⟨B6, O6, none⟩ = some v6 ∧ wb.cell? ⟨B7, O7, none⟩ = some v7 ∧ wb.cell? ⟨B8, O8, none⟩ = some v8 :=
  ⟨(hb.cell (p := ⟨B0, O0, none⟩) (blk_lt h.1)).trans h.1, (hb.cell (p := ⟨B1, O1, none⟩) (blk_lt h.2.1)).trans h.2.1, (hb.cell (p := ⟨B2, O2, none⟩) (blk_lt h.2.2.1)).trans h.2.2.1, (hb.cell (p := ⟨B3, O3, none⟩) (blk_lt h.2.2.2.1)).trans h.2.2.2.1, (hb.cell (p := ⟨B4, O4, none⟩) (blk_lt h.2.2.2.2.1)).trans h.2.2.2.2.1, (hb.cell (p := ⟨B5, O5, none⟩) (blk_lt h.2.2.2.2.2.1)).trans h.2.2.2.2.2.1, (hb.cell (p := ⟨B6, O6, none⟩) (blk_lt h.2.2.2.2.2.2.1)).trans h.2.2.2.2.2.2.1, (hb.cell (p := ⟨B7, O7, none⟩) (blk_lt h.2.2.2.2.2.2.2.1)).trans h.2.2.2.2.2.2.2.1, (hb.cell (p := ⟨B8, O8, none⟩) (blk_lt h.2.2.2.2.2.2.2.2)).trans h.2.2.2.2.2.2.2.2⟩
theorem keepV10 {wa wb : World} {B0 B1 B2 B3 B4 B5 B6 B7 B8 B9 O0 O1 O2 O3 O4 O5 O6 O7 O8 O9 : Nat} {v0 v1 v2 v3 v4 v5 v6 v7 v8 v9 : Value} (h : wa.cell? ⟨B0, O0, none⟩ = some v0 ∧ wa.cell? ⟨B1, O1, none⟩ = some v1 ∧ wa.cell? ⟨B2, O2, none⟩ = some v2 ∧ wa.cell? ⟨B3, O3, none⟩ = some v3 ∧ wa.cell? ⟨B4, O4, none⟩ = some v4 ∧ wa.cell? ⟨B5, O5, none⟩ = some v5 ∧ wa.cell? ⟨B6, O6, none⟩ = some v6 ∧ wa.cell? ⟨B7, O7, none⟩ = some v7 ∧ wa.cell? ⟨B8, O8, none⟩ = some v8 ∧ wa.cell? ⟨B9, O9, none⟩ = some v9) (hb : Below wa.heap.size wa wb) : wb.cell? ⟨B0, O0, none⟩ = some v0 ∧ wb.cell? ⟨B1, O1, none⟩ = some v1 ∧ wb.cell? ⟨B2, O2, none⟩ = some v2 ∧ wb.cell? ⟨B3, O3, none⟩ = some v3 ∧ wb.cell? ⟨B4, O4, none⟩ = some v4 ∧ wb.cell? ⟨B5, O5, none⟩ = some v5 ∧ wb.cell? ⟨B6, O6, none⟩ = some v6 ∧ wb.cell? ⟨B7, O7, none⟩ = some v7 ∧ wb.cell? ⟨B8, O8, none⟩ = some v8 ∧ wb.cell? ⟨B9, O9, none⟩ = some v9 :=
  ⟨(hb.cell (p := ⟨B0, O0, none⟩) (blk_lt h.1)).trans h.1, (hb.cell (p := ⟨B1, O1, none⟩) (blk_lt h.2.1)).trans h.2.1, (hb.cell (p := ⟨B2, O2, none⟩) (blk_lt h.2.2.1)).trans h.2.2.1, (hb.cell (p := ⟨B3, O3, none⟩) (blk_lt h.2.2.2.1)).trans h.2.2.2.1, (hb.cell (p := ⟨B4, O4, none⟩) (blk_lt h.2.2.2.2.1)).trans h.2.2.2.2.1, (hb.cell (p := ⟨B5, O5, none⟩) (blk_lt h.2.2.2.2.2.1)).trans h.2.2.2.2.2.1, (hb.cell (p := ⟨B6, O6, none⟩) (blk_lt h.2.2.2.2.2.2.1)).trans h.2.2.2.2.2.2.1, (hb.cell (p := ⟨B7, O7, none⟩) (blk_lt h.2.2.2.2.2.2.2.1)).trans h.2.2.2.2.2.2.2.1, (hb.cell (p := ⟨B8, O8, none⟩) (blk_lt h.2.2.2.2.2.2.2.2.1)).trans h.2.2.2.2.2.2.2.2.1, (hb.cell (p := ⟨B9, O9, none⟩) (blk_lt h.2.2.2.2.2.2.2.2.2)).trans h.2.2.2.2.2.2.2.2.2⟩
set_option maxRecDepth 100000 in
set_option maxHeartbeats 4000000 in
theorem l10Who_any (aT : Option Addr) (nT cT : Nat) (aH : Option Addr) (nH cH : Nat) (aL : Option Addr) (nL cL : Nat) (aG : Option Addr) (nG cG : Nat) (aN : Option Addr) (nN cN : Nat) (m : Tm) (w : World) (k : Int) (bT : nT ≤ 1048576) (bb : Bool) (hbb : bb = true ↔ 0 ≤ k ∧ k < (nT : Int)) :
    Calls Try.prog 43 #[tlV aT nT cT aH nH cH aL nL cL aG nG cG aN nN cN, .int .i64 k] w fun e w' => e = .returned (.bool bb) ∧ Below w.heap.size w w' := by
  have BX := hide ((Below.refl w.heap.size w).alloc (Nat.le_refl _) (tlO aT nT cT aH nH cH aL nL cL aG nG cG aN nN cN))
  by_cases h1 : 0 ≤ k
  · by_cases h2 : k < (nT : Int)
    · have E : Hid (bb = true) := hbb.2 ⟨h1, h2⟩
      clear hbb
      go_enter Try.func43, Try.ntmps43
      go_wp2
      go_ret
      exact ⟨by rw [E.out]; rfl, BX.out⟩
    · have E : Hid (bb = false) := bool_no10 hbb (fun h => h2 h.2)
      clear hbb
      go_enter Try.func43, Try.ntmps43
      go_wp2
      go_ret
      exact ⟨by rw [E.out]; rfl, BX.out⟩
  · have E : Hid (bb = false) := bool_no10 hbb (fun h => h1 h.1)
    clear hbb
    go_enter Try.func43, Try.ntmps43
    go_wp2
    go_ret
    exact ⟨by rw [E.out]; rfl, BX.out⟩
set_option maxRecDepth 100000 in
set_option maxHeartbeats 4000000 in
theorem l10Said_any (aT : Option Addr) (nT cT : Nat) (aH : Option Addr) (nH cH : Nat) (aL : Option Addr) (nL cL : Nat) (aG : Option Addr) (nG cG : Nat) (aN : Option Addr) (nN cN : Nat) (m : Tm) (w : World) (hz : TlZ m nT nH nL nG nN) (hF : TlF w aT aH aL aG aN m) (who no : Int) (t : ByteArray) (bb : Bool) (hbb : bb = true ↔ isTo m (who, no, t)) :
    Calls Try.prog 44 #[tlV aT nT cT aH nH cH aL nL cL aG nG cG aN nN cN, .agg #[.int .i64 who, .int .i64 no, .string t]] w fun e w' => e = .returned (.bool bb) ∧ Below w.heap.size w w' := by
  obtain ⟨W0, hW0⟩ : ∃ W0, (w.alloc (tlO aT nT cT aH nH cH aL nL cL aG nG cG aN nN cN)).alloc (.cells #[.int .i64 who, .int .i64 no, .string t] 75 (0, 0)) = W0 := ⟨_, rfl⟩
  have BX : Hid (Below w.heap.size w W0) := by rw [← hW0]; exact hide (((Below.refl _ _).alloc (Nat.le_refl _) _).alloc (by simp) _)
  have g0 : W0.heap[w.heap.size]? = some (tlO aT nT cT aH nH cH aL nL cL aG nG cG aN nN cN) := by
    rw [← hW0]
    exact (((Below.refl (w.alloc (tlO aT nT cT aH nH cH aL nL cL aG nG cG aN nN cN)).heap.size _).alloc (Nat.le_refl _) _).block w.heap.size (by simp)).trans (blk_newO _ _)
  have h0 : W0.heap[w.heap.size + 1]? = some (.cells #[.int .i64 who, .int .i64 no, .string t] 75 (0, 0)) := by
    rw [← hW0]
    have := blk_newO (w.alloc (tlO aT nT cT aH nH cH aL nL cL aG nG cG aN nN cN)) (.cells #[.int .i64 who, .int .i64 no, .string t] 75 (0, 0))
    rw [World.size_alloc] at this
    exact this
  have F0 := hide (hF.below BX.out)
  have HW := hide hW0
  obtain ⟨k0, k1, k2, k3, k4⟩ := blk5 g0
  have j0 : W0.cell? ⟨w.heap.size + 1, 0, none⟩ = some (.int .i64 who) := by simp [World.cell?, h0]
  have j1 : W0.cell? ⟨w.heap.size + 1, 1, none⟩ = some (.int .i64 no) := by simp [World.cell?, h0]
  have j2 : W0.cell? ⟨w.heap.size + 1, 2, none⟩ = some (.string t) := by simp [World.cell?, h0]
  have HBB := hide hbb
  have HZ := hide hz
  have bT : nT ≤ 1048576 := hz.bt
  clear hW0 g0 h0 hbb hz hF
  by_cases hw : 0 ≤ who ∧ who < (nT : Int)
  · obtain ⟨u, hu⟩ : ∃ u : Nat, (u : Int) = who := ⟨who.toNat, by omega⟩
    subst hu
    have hu0 : (0 : Int) ≤ (u : Int) := by omega
    have hu1 : (u : Int) < (nT : Int) := hw.2
    have huT : u < m.T.length := by rw [HZ.out.t]; omega
    obtain ⟨tb, tf, ea, ai, ci, hc, hs⟩ := F0.out.t u huT
    subst ea
    have hq2 := HZ.out.bs u huT
    obtain ⟨l, hl⟩ : ∃ l, l = m.T.getD u [] := ⟨_, rfl⟩
    rw [← hl] at hc hs hq2
    obtain ⟨q, hq⟩ : ∃ q, q = l.length := ⟨_, rfl⟩
    rw [← hq] at hc hq2
    have HL := hide hl
    have HQ := hide hq
    have HS := hide hs
    clear hl hs hw
    have C1 := hide (fun wx (hb : Below W0.heap.size W0 wx) => l10Who_any (some ⟨tb, tf, none⟩) nT cT aH nH cH aL nL cL aG nG cG aN nN cN m wx (u : Int) bT true (by simp only [true_iff]; exact ⟨hu0, hu1⟩))
    by_cases hno : 0 ≤ no ∧ no < (q : Int)
    · obtain ⟨v, hv⟩ : ∃ v : Nat, (v : Int) = no := ⟨no.toNat, by omega⟩
      subst hv
      have hv0 : (0 : Int) ≤ (v : Int) := by omega
      have hv1 : (v : Int) < (q : Int) := hno.2
      obtain ⟨sb, so, ea, hx⟩ := HS.out v (by have := HQ.out; omega)
      subst ea
      obtain ⟨y, hy⟩ : ∃ y, y = l.getD v e0 := ⟨_, rfl⟩
      rw [← hy] at hx
      have HY := hide hy
      clear hq hy hno
      by_cases e : t = y
      · have f1 : (t.toList == y.toList) = true := by rw [e]; simp
        have f2 : (y.toList == t.toList) = true := by rw [e]; simp
        have E : Hid (bb = true) := HBB.out.2 ⟨hu0, by rw [HZ.out.t]; exact hu1, hv0, by show (v : Int) < ((m.T.getD (u : Int).toNat []).length : Int); rw [Int.toNat_natCast, ← HL.out, ← HQ.out]; exact hv1, by show t = (m.T.getD (u : Int).toNat []).getD (v : Int).toNat e0; rw [Int.toNat_natCast, Int.toNat_natCast, ← HL.out, ← HY.out]; exact e⟩
        clear e
        go_enter Try.func44, Try.ntmps44
        go_upto_region 1 with fail
        rw [HW.out]
        refine wp_region_held_drew (S := (fun wx => wx.cell? ⟨w.heap.size, 0, none⟩ = some (.slice (some ⟨tb, tf, none⟩) nT cT) ∧ wx.cell? ⟨w.heap.size, 1, none⟩ = some (.slice aH nH cH) ∧ wx.cell? ⟨w.heap.size, 2, none⟩ = some (.slice aL nL cL) ∧ wx.cell? ⟨w.heap.size, 3, none⟩ = some (.slice aG nG cG) ∧ wx.cell? ⟨w.heap.size, 4, none⟩ = some (.slice aN nN cN) ∧ wx.cell? ⟨w.heap.size + 1, 0, none⟩ = some (.int .i64 (u : Int)) ∧ wx.cell? ⟨w.heap.size + 1, 1, none⟩ = some (.int .i64 (v : Int)) ∧ wx.cell? ⟨w.heap.size + 1, 2, none⟩ = some (.string t) ∧ wx.cell? ⟨tb, tf + u, none⟩ = some (.slice (some ⟨sb, so, none⟩) q ci) ∧ wx.cell? ⟨sb, so + v, none⟩ = some (.string y))) (by kernel_rfl) ⟨k0, k1, k2, k3, k4, j0, j1, j2, hc, hx⟩ (fun hHeld => ?_)
        refine wpAnyH_take (i := 0) (v := ?v406) rfl (by kernel_rfl) (by kernel_rfl) (by kernel_rfl) (fun _ _ _ h => h) (Or.inl ⟨by rfl, ?y406⟩) (by assumption) ?r406
        case y406 => (intro w hSw; (try dsimp only at hSw); go_simp; try (with_reducible rfl))
        simp only [List.getElem_toArray, List.getElem_cons_zero, Act.put, List.setIfInBounds_toArray, List.set_cons_zero, List.set_cons_succ]
        refine wpAnyH_take (i := 1) (v := ?v407) rfl (by kernel_rfl) (by kernel_rfl) (by kernel_rfl) (fun _ _ _ h => h) (Or.inl ⟨by rfl, ?y407⟩) (by assumption) ?r407
        case y407 => (intro w hSw; (try dsimp only at hSw); go_simp; try (with_reducible rfl))
        simp only [List.getElem_toArray, List.getElem_cons_succ, List.getElem_cons_zero, Act.put, List.setIfInBounds_toArray, List.set_cons_zero, List.set_cons_succ]
        refine wpAnyH_take (i := 2) (v := ?v408) rfl (by kernel_rfl) (by kernel_rfl) (by kernel_rfl) (fun _ _ _ h => h) (Or.inl ⟨by rfl, ?y408⟩) (by assumption) ?r408
        case y408 => (intro w hSw; (try dsimp only at hSw); go_simp; try (with_reducible rfl))
        simp only [List.getElem_toArray, List.getElem_cons_succ, List.getElem_cons_zero, Act.put, List.setIfInBounds_toArray, List.set_cons_zero, List.set_cons_succ]
        refine wpAnyH_ready (rs := [3]) (by kernel_rfl) (by simp) ?_
        refine AllReadyH.cons rfl (fun K hK => ?_) AllReadyH.nil
        simp only [List.getElem_toArray, List.getElem_cons_succ, List.getElem_cons_zero]
        go_simp
        go_at_call 43
        refine (C1.out _ ((Below.refl _ _).drew)).mono ?_
        rintro e w1 ⟨rfl, hb1⟩
        dsimp only
        refine hK.out _ _ ?_ (fun hHeld => ?_)
        · exact keepV10 hHeld hb1
        clear hK K
        try simp only [Act.put, List.setIfInBounds_toArray, List.set_cons_zero, List.set_cons_succ]
        refine wpAnyH_take (i := 4) (v := ?v409) rfl (by kernel_rfl) (by kernel_rfl) (by kernel_rfl) (fun _ _ _ h => h) (Or.inl ⟨by rfl, ?y409⟩) (by assumption) ?r409
        case y409 => (intro w hSw; (try dsimp only at hSw); go_simp; try (with_reducible rfl))
        simp only [List.getElem_toArray, List.getElem_cons_succ, List.getElem_cons_zero, Act.put, List.setIfInBounds_toArray, List.set_cons_zero, List.set_cons_succ]
        refine wpAnyH_take (i := 5) (v := ?v410) rfl (by kernel_rfl) (by kernel_rfl) (by kernel_rfl) (fun _ _ _ h => h) (Or.inl ⟨by rfl, ?y410⟩) (by assumption) ?r410
        case y410 => (intro w hSw; (try dsimp only at hSw); go_simp; try (with_reducible rfl))
        simp only [List.getElem_toArray, List.getElem_cons_succ, List.getElem_cons_zero, Act.put, List.setIfInBounds_toArray, List.set_cons_zero, List.set_cons_succ]
        refine wpAnyH_take (i := 6) (v := ?v411) rfl (by kernel_rfl) (by kernel_rfl) (by kernel_rfl) (fun _ _ _ h => h) (Or.inl ⟨by rfl, ?y411⟩) (by assumption) ?r411
        case y411 => (intro w hSw; (try dsimp only at hSw); go_simp; try (with_reducible rfl))
        simp only [List.getElem_toArray, List.getElem_cons_succ, List.getElem_cons_zero, Act.put, List.setIfInBounds_toArray, List.set_cons_zero, List.set_cons_succ]
        refine wpAnyH_take (i := 7) (v := ?v412) rfl (by kernel_rfl) (by kernel_rfl) (by kernel_rfl) (fun _ _ _ h => h) (Or.inl ⟨by rfl, ?y412⟩) (by assumption) ?r412
        case y412 => (intro w hSw; (try dsimp only at hSw); go_simp; try (with_reducible rfl))
        simp only [List.getElem_toArray, List.getElem_cons_succ, List.getElem_cons_zero, Act.put, List.setIfInBounds_toArray, List.set_cons_zero, List.set_cons_succ]
        refine wpAnyH_take (i := 8) (v := ?v413) rfl (by kernel_rfl) (by kernel_rfl) (by kernel_rfl) (fun _ _ _ h => h) (Or.inl ⟨by rfl, ?y413⟩) (by assumption) ?r413
        case y413 => (intro w hSw; (try dsimp only at hSw); go_simp; try (with_reducible rfl))
        simp only [List.getElem_toArray, List.getElem_cons_succ, List.getElem_cons_zero, Act.put, List.setIfInBounds_toArray, List.set_cons_zero, List.set_cons_succ]
        refine wpAnyH_take (i := 9) (v := ?v414) rfl (by kernel_rfl) (by kernel_rfl) (by kernel_rfl) (fun _ _ _ h => h) (Or.inl ⟨by rfl, ?y414⟩) (by assumption) ?r414
        case y414 => (intro w hSw; (try dsimp only at hSw); go_simp; try (with_reducible rfl))
        simp only [List.getElem_toArray, List.getElem_cons_succ, List.getElem_cons_zero, Act.put, List.setIfInBounds_toArray, List.set_cons_zero, List.set_cons_succ]
        refine wpAnyH_take (i := 10) (v := ?v415) rfl (by kernel_rfl) (by kernel_rfl) (by kernel_rfl) (fun _ _ _ h => h) (Or.inl ⟨by rfl, ?y415⟩) (by assumption) ?r415
        case y415 => (intro w hSw; (try dsimp only at hSw); go_simp; try (with_reducible rfl))
        simp only [List.getElem_toArray, List.getElem_cons_succ, List.getElem_cons_zero, Act.put, List.setIfInBounds_toArray, List.set_cons_zero, List.set_cons_succ]
        refine wpAnyH_take (i := 11) (v := ?v416) rfl (by kernel_rfl) (by kernel_rfl) (by kernel_rfl) (fun _ _ _ h => h) (Or.inl ⟨by rfl, ?y416⟩) (by assumption) ?r416
        case y416 => (intro w hSw; (try dsimp only at hSw); go_simp; try (with_reducible rfl))
        simp only [List.getElem_toArray, List.getElem_cons_succ, List.getElem_cons_zero, Act.put, List.setIfInBounds_toArray, List.set_cons_zero, List.set_cons_succ]
        refine wpAnyH_take (i := 12) (v := ?v417) rfl (by kernel_rfl) (by kernel_rfl) (by kernel_rfl) (fun _ _ _ h => h) (Or.inl ⟨by rfl, ?y417⟩) (by assumption) ?r417
        case y417 => (intro w hSw; (try dsimp only at hSw); go_simp; try (with_reducible rfl))
        simp only [List.getElem_toArray, List.getElem_cons_succ, List.getElem_cons_zero, Act.put, List.setIfInBounds_toArray, List.set_cons_zero, List.set_cons_succ]
        refine wpAnyH_take (i := 13) (v := ?v418) rfl (by kernel_rfl) (by kernel_rfl) (by kernel_rfl) (fun _ _ _ h => h) (Or.inl ⟨by rfl, ?y418⟩) (by assumption) ?r418
        case y418 => (intro w hSw; (try dsimp only at hSw); go_simp; try (with_reducible rfl))
        simp only [List.getElem_toArray, List.getElem_cons_succ, List.getElem_cons_zero, Act.put, List.setIfInBounds_toArray, List.set_cons_zero, List.set_cons_succ]
        refine wpAnyH_take (i := 14) (v := ?v419) rfl (by kernel_rfl) (by kernel_rfl) (by kernel_rfl) (fun _ _ _ h => h) (Or.inl ⟨by rfl, ?y419⟩) (by assumption) ?r419
        case y419 => (intro w hSw; (try dsimp only at hSw); go_simp; try (with_reducible rfl))
        simp only [List.getElem_toArray, List.getElem_cons_succ, List.getElem_cons_zero, Act.put, List.setIfInBounds_toArray, List.set_cons_zero, List.set_cons_succ]
        refine wpAnyH_take (i := 15) (v := ?v420) rfl (by kernel_rfl) (by kernel_rfl) (by kernel_rfl) (fun _ _ _ h => h) (Or.inl ⟨by rfl, ?y420⟩) (by assumption) ?r420
        case y420 => (intro w hSw; (try dsimp only at hSw); go_simp; try (with_reducible rfl))
        simp only [List.getElem_toArray, List.getElem_cons_succ, List.getElem_cons_zero, Act.put, List.setIfInBounds_toArray, List.set_cons_zero, List.set_cons_succ]
        refine wpAnyH_take (i := 16) (v := ?v421) rfl (by kernel_rfl) (by kernel_rfl) (by kernel_rfl) (fun _ _ _ h => h) (Or.inl ⟨by rfl, ?y421⟩) (by assumption) ?r421
        case y421 => (intro w hSw; (try dsimp only at hSw); go_simp; try (with_reducible rfl))
        simp only [List.getElem_toArray, List.getElem_cons_succ, List.getElem_cons_zero, Act.put, List.setIfInBounds_toArray, List.set_cons_zero, List.set_cons_succ]
        refine wpAnyH_take (i := 17) (v := ?v422) rfl (by kernel_rfl) (by kernel_rfl) (by kernel_rfl) (fun _ _ _ h => h) (Or.inl ⟨by rfl, ?y422⟩) (by assumption) ?r422
        case y422 => (intro w hSw; (try dsimp only at hSw); go_simp; try (with_reducible rfl))
        simp only [List.getElem_toArray, List.getElem_cons_succ, List.getElem_cons_zero, Act.put, List.setIfInBounds_toArray, List.set_cons_zero, List.set_cons_succ]
        refine wpAnyH_take (i := 18) (v := ?v423) rfl (by kernel_rfl) (by kernel_rfl) (by kernel_rfl) (fun _ _ _ h => h) (Or.inl ⟨by rfl, ?y423⟩) (by assumption) ?r423
        case y423 => (intro w hSw; (try dsimp only at hSw); go_simp; try (with_reducible rfl))
        simp only [List.getElem_toArray, List.getElem_cons_succ, List.getElem_cons_zero, Act.put, List.setIfInBounds_toArray, List.set_cons_zero, List.set_cons_succ]
        refine wpAnyH_take (i := 19) (v := ?v424) rfl (by kernel_rfl) (by kernel_rfl) (by kernel_rfl) (fun _ _ _ h => h) (Or.inl ⟨by rfl, ?y424⟩) (by assumption) ?r424
        case y424 => (intro w hSw; (try dsimp only at hSw); go_simp; try (with_reducible rfl))
        simp only [List.getElem_toArray, List.getElem_cons_succ, List.getElem_cons_zero, Act.put, List.setIfInBounds_toArray, List.set_cons_zero, List.set_cons_succ]
        refine wpAnyH_take (i := 20) (v := ?v425) rfl (by kernel_rfl) (by kernel_rfl) (by kernel_rfl) (fun _ _ _ h => h) (Or.inl ⟨by rfl, ?y425⟩) (by assumption) ?r425
        case y425 => (intro w hSw; (try dsimp only at hSw); go_simp; try (with_reducible rfl))
        simp only [List.getElem_toArray, List.getElem_cons_succ, List.getElem_cons_zero, Act.put, List.setIfInBounds_toArray, List.set_cons_zero, List.set_cons_succ]
        refine wpAnyH_take (i := 21) (v := ?v426) rfl (by kernel_rfl) (by kernel_rfl) (by kernel_rfl) (fun _ _ _ h => h) (Or.inl ⟨by rfl, ?y426⟩) (by assumption) ?r426
        case y426 => (intro w hSw; (try dsimp only at hSw); go_simp; try (with_reducible rfl))
        simp only [List.getElem_toArray, List.getElem_cons_succ, List.getElem_cons_zero, Act.put, List.setIfInBounds_toArray, List.set_cons_zero, List.set_cons_succ]
        refine wpAnyH_take (i := 22) (v := ?v427) rfl (by kernel_rfl) (by kernel_rfl) (by kernel_rfl) (fun _ _ _ h => h) (Or.inl ⟨by rfl, ?y427⟩) (by assumption) ?r427
        case y427 => (intro w hSw; (try dsimp only at hSw); go_simp; try (with_reducible rfl))
        simp only [List.getElem_toArray, List.getElem_cons_succ, List.getElem_cons_zero, Act.put, List.setIfInBounds_toArray, List.set_cons_zero, List.set_cons_succ]
        refine wpAnyH_take (i := 23) (v := ?v428) rfl (by kernel_rfl) (by kernel_rfl) (by kernel_rfl) (fun _ _ _ h => h) (Or.inl ⟨by rfl, ?y428⟩) (by assumption) ?r428
        case y428 => (intro w hSw; (try dsimp only at hSw); go_simp; try (with_reducible rfl))
        simp only [List.getElem_toArray, List.getElem_cons_succ, List.getElem_cons_zero, Act.put, List.setIfInBounds_toArray, List.set_cons_zero, List.set_cons_succ]
        refine wpAnyH_take (i := 24) (v := ?v429) rfl (by kernel_rfl) (by kernel_rfl) (by kernel_rfl) (fun _ _ _ h => h) (Or.inl ⟨by rfl, ?y429⟩) (by assumption) ?r429
        case y429 => (intro w hSw; (try dsimp only at hSw); go_simp; try (with_reducible rfl))
        simp only [List.getElem_toArray, List.getElem_cons_succ, List.getElem_cons_zero, Act.put, List.setIfInBounds_toArray, List.set_cons_zero, List.set_cons_succ]
        refine wpAnyH_take (i := 25) (v := ?v430) rfl (by kernel_rfl) (by kernel_rfl) (by kernel_rfl) (fun _ _ _ h => h) (Or.inl ⟨by rfl, ?y430⟩) (by assumption) ?r430
        case y430 => (intro w hSw; (try dsimp only at hSw); go_simp; try (with_reducible rfl))
        simp only [List.getElem_toArray, List.getElem_cons_succ, List.getElem_cons_zero, Act.put, List.setIfInBounds_toArray, List.set_cons_zero, List.set_cons_succ]
        refine wpAnyH_take (i := 26) (v := ?v431) rfl (by kernel_rfl) (by kernel_rfl) (by kernel_rfl) (fun _ _ _ h => h) (Or.inl ⟨by rfl, ?y431⟩) (by assumption) ?r431
        case y431 => (intro w hSw; (try dsimp only at hSw); go_simp; try (with_reducible rfl))
        simp only [List.getElem_toArray, List.getElem_cons_succ, List.getElem_cons_zero, Act.put, List.setIfInBounds_toArray, List.set_cons_zero, List.set_cons_succ]
        refine wpAnyH_take (i := 27) (v := ?v432) rfl (by kernel_rfl) (by kernel_rfl) (by kernel_rfl) (fun _ _ _ h => h) (Or.inl ⟨by rfl, ?y432⟩) (by assumption) ?r432
        case y432 => (intro w hSw; (try dsimp only at hSw); go_simp; try (with_reducible rfl))
        simp only [List.getElem_toArray, List.getElem_cons_succ, List.getElem_cons_zero, Act.put, List.setIfInBounds_toArray, List.set_cons_zero, List.set_cons_succ]
        refine wpAnyH_take (i := 28) (v := ?v433) rfl (by kernel_rfl) (by kernel_rfl) (by kernel_rfl) (fun _ _ _ h => h) (Or.inl ⟨by rfl, ?y433⟩) (by assumption) ?r433
        case y433 => (intro w hSw; (try dsimp only at hSw); go_simp; try (with_reducible rfl))
        simp only [List.getElem_toArray, List.getElem_cons_succ, List.getElem_cons_zero, Act.put, List.setIfInBounds_toArray, List.set_cons_zero, List.set_cons_succ]
        refine wpAnyH_take (i := 29) (v := ?v434) rfl (by kernel_rfl) (by kernel_rfl) (by kernel_rfl) (fun _ _ _ h => h) (Or.inl ⟨by rfl, ?y434⟩) (by assumption) ?r434
        case y434 => (intro w hSw; (try dsimp only at hSw); go_simp; try (with_reducible rfl))
        simp only [List.getElem_toArray, List.getElem_cons_succ, List.getElem_cons_zero, Act.put, List.setIfInBounds_toArray, List.set_cons_zero, List.set_cons_succ]
        refine wpAnyH_take (i := 30) (v := ?v435) rfl (by kernel_rfl) (by kernel_rfl) (by kernel_rfl) (fun _ _ _ h => h) (Or.inl ⟨by rfl, ?y435⟩) (by assumption) ?r435
        case y435 => (intro w hSw; (try dsimp only at hSw); go_simp; try (with_reducible rfl))
        simp only [List.getElem_toArray, List.getElem_cons_succ, List.getElem_cons_zero, Act.put, List.setIfInBounds_toArray, List.set_cons_zero, List.set_cons_succ]
        refine wpAnyH_take (i := 31) (v := ?v436) rfl (by kernel_rfl) (by kernel_rfl) (by kernel_rfl) (fun _ _ _ h => h) (Or.inl ⟨by rfl, ?y436⟩) (by assumption) ?r436
        case y436 => (intro w hSw; (try dsimp only at hSw); go_simp; try (with_reducible rfl))
        simp only [List.getElem_toArray, List.getElem_cons_succ, List.getElem_cons_zero, Act.put, List.setIfInBounds_toArray, List.set_cons_zero, List.set_cons_succ]
        refine wpAnyH_take (i := 32) (v := ?v437) rfl (by kernel_rfl) (by kernel_rfl) (by kernel_rfl) (fun _ _ _ h => h) (Or.inl ⟨by rfl, ?y437⟩) (by assumption) ?r437
        case y437 => (intro w hSw; (try dsimp only at hSw); go_simp; try (with_reducible rfl))
        simp only [List.getElem_toArray, List.getElem_cons_succ, List.getElem_cons_zero, Act.put, List.setIfInBounds_toArray, List.set_cons_zero, List.set_cons_succ]
        refine wpAnyH_take (i := 33) (v := ?v438) rfl (by kernel_rfl) (by kernel_rfl) (by kernel_rfl) (fun _ _ _ h => h) (Or.inl ⟨by rfl, ?y438⟩) (by assumption) ?r438
        case y438 => (intro w hSw; (try dsimp only at hSw); go_simp; try (with_reducible rfl))
        simp only [List.getElem_toArray, List.getElem_cons_succ, List.getElem_cons_zero, Act.put, List.setIfInBounds_toArray, List.set_cons_zero, List.set_cons_succ]
        refine wpAnyH_take (i := 34) (v := ?v439) rfl (by kernel_rfl) (by kernel_rfl) (by kernel_rfl) (fun _ _ _ h => h) (Or.inl ⟨by rfl, ?y439⟩) (by assumption) ?r439
        case y439 => (intro w hSw; (try dsimp only at hSw); go_simp; try (with_reducible rfl))
        simp only [List.getElem_toArray, List.getElem_cons_succ, List.getElem_cons_zero, Act.put, List.setIfInBounds_toArray, List.set_cons_zero, List.set_cons_succ]
        refine wpAnyH_take (i := 35) (v := ?v440) rfl (by kernel_rfl) (by kernel_rfl) (by kernel_rfl) (fun _ _ _ h => h) (Or.inl ⟨by rfl, ?y440⟩) (by assumption) ?r440
        case y440 => (intro w hSw; (try dsimp only at hSw); go_simp; try (with_reducible rfl))
        simp only [List.getElem_toArray, List.getElem_cons_succ, List.getElem_cons_zero, Act.put, List.setIfInBounds_toArray, List.set_cons_zero, List.set_cons_succ]
        refine wpAnyH_take (i := 36) (v := ?v441) rfl (by kernel_rfl) (by kernel_rfl) (by kernel_rfl) (fun _ _ _ h => h) (Or.inl ⟨by rfl, ?y441⟩) (by assumption) ?r441
        case y441 => (intro w hSw; (try dsimp only at hSw); go_simp; try (with_reducible rfl))
        simp only [List.getElem_toArray, List.getElem_cons_succ, List.getElem_cons_zero, Act.put, List.setIfInBounds_toArray, List.set_cons_zero, List.set_cons_succ]
        refine wpAnyH_done (by kernel_rfl) ?_ _
        have B1 := hide (BX.out.trans (((Below.refl _ _).drew.trans (hb1.mono (Nat.le_refl _))).mono BX.out.size))
        clear hHeld hb1
        go_wp2
        go_ret
        exact ⟨by rw [E.out]; rfl, B1.out⟩
      · have f1 : (t.toList == y.toList) = false := text_ne10 e
        have f2 : (y.toList == t.toList) = false := text_ne10 (fun h => e h.symm)
        have E : Hid (bb = false) := bool_no10 HBB.out (fun h => e (by
          have h1 := h.t
          simp only [Int.toNat_natCast] at h1
          rw [h1, HY.out, HL.out]))
        clear e
        go_enter Try.func44, Try.ntmps44
        go_upto_region 1 with fail
        rw [HW.out]
        refine wp_region_held_drew (S := (fun wx => wx.cell? ⟨w.heap.size, 0, none⟩ = some (.slice (some ⟨tb, tf, none⟩) nT cT) ∧ wx.cell? ⟨w.heap.size, 1, none⟩ = some (.slice aH nH cH) ∧ wx.cell? ⟨w.heap.size, 2, none⟩ = some (.slice aL nL cL) ∧ wx.cell? ⟨w.heap.size, 3, none⟩ = some (.slice aG nG cG) ∧ wx.cell? ⟨w.heap.size, 4, none⟩ = some (.slice aN nN cN) ∧ wx.cell? ⟨w.heap.size + 1, 0, none⟩ = some (.int .i64 (u : Int)) ∧ wx.cell? ⟨w.heap.size + 1, 1, none⟩ = some (.int .i64 (v : Int)) ∧ wx.cell? ⟨w.heap.size + 1, 2, none⟩ = some (.string t) ∧ wx.cell? ⟨tb, tf + u, none⟩ = some (.slice (some ⟨sb, so, none⟩) q ci) ∧ wx.cell? ⟨sb, so + v, none⟩ = some (.string y))) (by kernel_rfl) ⟨k0, k1, k2, k3, k4, j0, j1, j2, hc, hx⟩ (fun hHeld => ?_)
        refine wpAnyH_take (i := 0) (v := ?v442) rfl (by kernel_rfl) (by kernel_rfl) (by kernel_rfl) (fun _ _ _ h => h) (Or.inl ⟨by rfl, ?y442⟩) (by assumption) ?r442
        case y442 => (intro w hSw; (try dsimp only at hSw); go_simp; try (with_reducible rfl))
        simp only [List.getElem_toArray, List.getElem_cons_zero, Act.put, List.setIfInBounds_toArray, List.set_cons_zero, List.set_cons_succ]
        refine wpAnyH_take (i := 1) (v := ?v443) rfl (by kernel_rfl) (by kernel_rfl) (by kernel_rfl) (fun _ _ _ h => h) (Or.inl ⟨by rfl, ?y443⟩) (by assumption) ?r443
        case y443 => (intro w hSw; (try dsimp only at hSw); go_simp; try (with_reducible rfl))
        simp only [List.getElem_toArray, List.getElem_cons_succ, List.getElem_cons_zero, Act.put, List.setIfInBounds_toArray, List.set_cons_zero, List.set_cons_succ]
        refine wpAnyH_take (i := 2) (v := ?v444) rfl (by kernel_rfl) (by kernel_rfl) (by kernel_rfl) (fun _ _ _ h => h) (Or.inl ⟨by rfl, ?y444⟩) (by assumption) ?r444
        case y444 => (intro w hSw; (try dsimp only at hSw); go_simp; try (with_reducible rfl))
        simp only [List.getElem_toArray, List.getElem_cons_succ, List.getElem_cons_zero, Act.put, List.setIfInBounds_toArray, List.set_cons_zero, List.set_cons_succ]
        refine wpAnyH_ready (rs := [3]) (by kernel_rfl) (by simp) ?_
        refine AllReadyH.cons rfl (fun K hK => ?_) AllReadyH.nil
        simp only [List.getElem_toArray, List.getElem_cons_succ, List.getElem_cons_zero]
        go_simp
        go_at_call 43
        refine (C1.out _ ((Below.refl _ _).drew)).mono ?_
        rintro e w1 ⟨rfl, hb1⟩
        dsimp only
        refine hK.out _ _ ?_ (fun hHeld => ?_)
        · exact keepV10 hHeld hb1
        clear hK K
        try simp only [Act.put, List.setIfInBounds_toArray, List.set_cons_zero, List.set_cons_succ]
        refine wpAnyH_take (i := 4) (v := ?v445) rfl (by kernel_rfl) (by kernel_rfl) (by kernel_rfl) (fun _ _ _ h => h) (Or.inl ⟨by rfl, ?y445⟩) (by assumption) ?r445
        case y445 => (intro w hSw; (try dsimp only at hSw); go_simp; try (with_reducible rfl))
        simp only [List.getElem_toArray, List.getElem_cons_succ, List.getElem_cons_zero, Act.put, List.setIfInBounds_toArray, List.set_cons_zero, List.set_cons_succ]
        refine wpAnyH_take (i := 5) (v := ?v446) rfl (by kernel_rfl) (by kernel_rfl) (by kernel_rfl) (fun _ _ _ h => h) (Or.inl ⟨by rfl, ?y446⟩) (by assumption) ?r446
        case y446 => (intro w hSw; (try dsimp only at hSw); go_simp; try (with_reducible rfl))
        simp only [List.getElem_toArray, List.getElem_cons_succ, List.getElem_cons_zero, Act.put, List.setIfInBounds_toArray, List.set_cons_zero, List.set_cons_succ]
        refine wpAnyH_take (i := 6) (v := ?v447) rfl (by kernel_rfl) (by kernel_rfl) (by kernel_rfl) (fun _ _ _ h => h) (Or.inl ⟨by rfl, ?y447⟩) (by assumption) ?r447
        case y447 => (intro w hSw; (try dsimp only at hSw); go_simp; try (with_reducible rfl))
        simp only [List.getElem_toArray, List.getElem_cons_succ, List.getElem_cons_zero, Act.put, List.setIfInBounds_toArray, List.set_cons_zero, List.set_cons_succ]
        refine wpAnyH_take (i := 7) (v := ?v448) rfl (by kernel_rfl) (by kernel_rfl) (by kernel_rfl) (fun _ _ _ h => h) (Or.inl ⟨by rfl, ?y448⟩) (by assumption) ?r448
        case y448 => (intro w hSw; (try dsimp only at hSw); go_simp; try (with_reducible rfl))
        simp only [List.getElem_toArray, List.getElem_cons_succ, List.getElem_cons_zero, Act.put, List.setIfInBounds_toArray, List.set_cons_zero, List.set_cons_succ]
        refine wpAnyH_take (i := 8) (v := ?v449) rfl (by kernel_rfl) (by kernel_rfl) (by kernel_rfl) (fun _ _ _ h => h) (Or.inl ⟨by rfl, ?y449⟩) (by assumption) ?r449
        case y449 => (intro w hSw; (try dsimp only at hSw); go_simp; try (with_reducible rfl))
        simp only [List.getElem_toArray, List.getElem_cons_succ, List.getElem_cons_zero, Act.put, List.setIfInBounds_toArray, List.set_cons_zero, List.set_cons_succ]
        refine wpAnyH_take (i := 9) (v := ?v450) rfl (by kernel_rfl) (by kernel_rfl) (by kernel_rfl) (fun _ _ _ h => h) (Or.inl ⟨by rfl, ?y450⟩) (by assumption) ?r450
        case y450 => (intro w hSw; (try dsimp only at hSw); go_simp; try (with_reducible rfl))
        simp only [List.getElem_toArray, List.getElem_cons_succ, List.getElem_cons_zero, Act.put, List.setIfInBounds_toArray, List.set_cons_zero, List.set_cons_succ]
        refine wpAnyH_take (i := 10) (v := ?v451) rfl (by kernel_rfl) (by kernel_rfl) (by kernel_rfl) (fun _ _ _ h => h) (Or.inl ⟨by rfl, ?y451⟩) (by assumption) ?r451
        case y451 => (intro w hSw; (try dsimp only at hSw); go_simp; try (with_reducible rfl))
        simp only [List.getElem_toArray, List.getElem_cons_succ, List.getElem_cons_zero, Act.put, List.setIfInBounds_toArray, List.set_cons_zero, List.set_cons_succ]
        refine wpAnyH_take (i := 11) (v := ?v452) rfl (by kernel_rfl) (by kernel_rfl) (by kernel_rfl) (fun _ _ _ h => h) (Or.inl ⟨by rfl, ?y452⟩) (by assumption) ?r452
        case y452 => (intro w hSw; (try dsimp only at hSw); go_simp; try (with_reducible rfl))
        simp only [List.getElem_toArray, List.getElem_cons_succ, List.getElem_cons_zero, Act.put, List.setIfInBounds_toArray, List.set_cons_zero, List.set_cons_succ]
        refine wpAnyH_take (i := 12) (v := ?v453) rfl (by kernel_rfl) (by kernel_rfl) (by kernel_rfl) (fun _ _ _ h => h) (Or.inl ⟨by rfl, ?y453⟩) (by assumption) ?r453
        case y453 => (intro w hSw; (try dsimp only at hSw); go_simp; try (with_reducible rfl))
        simp only [List.getElem_toArray, List.getElem_cons_succ, List.getElem_cons_zero, Act.put, List.setIfInBounds_toArray, List.set_cons_zero, List.set_cons_succ]
        refine wpAnyH_take (i := 13) (v := ?v454) rfl (by kernel_rfl) (by kernel_rfl) (by kernel_rfl) (fun _ _ _ h => h) (Or.inl ⟨by rfl, ?y454⟩) (by assumption) ?r454
        case y454 => (intro w hSw; (try dsimp only at hSw); go_simp; try (with_reducible rfl))
        simp only [List.getElem_toArray, List.getElem_cons_succ, List.getElem_cons_zero, Act.put, List.setIfInBounds_toArray, List.set_cons_zero, List.set_cons_succ]
        refine wpAnyH_take (i := 14) (v := ?v455) rfl (by kernel_rfl) (by kernel_rfl) (by kernel_rfl) (fun _ _ _ h => h) (Or.inl ⟨by rfl, ?y455⟩) (by assumption) ?r455
        case y455 => (intro w hSw; (try dsimp only at hSw); go_simp; try (with_reducible rfl))
        simp only [List.getElem_toArray, List.getElem_cons_succ, List.getElem_cons_zero, Act.put, List.setIfInBounds_toArray, List.set_cons_zero, List.set_cons_succ]
        refine wpAnyH_take (i := 15) (v := ?v456) rfl (by kernel_rfl) (by kernel_rfl) (by kernel_rfl) (fun _ _ _ h => h) (Or.inl ⟨by rfl, ?y456⟩) (by assumption) ?r456
        case y456 => (intro w hSw; (try dsimp only at hSw); go_simp; try (with_reducible rfl))
        simp only [List.getElem_toArray, List.getElem_cons_succ, List.getElem_cons_zero, Act.put, List.setIfInBounds_toArray, List.set_cons_zero, List.set_cons_succ]
        refine wpAnyH_take (i := 16) (v := ?v457) rfl (by kernel_rfl) (by kernel_rfl) (by kernel_rfl) (fun _ _ _ h => h) (Or.inl ⟨by rfl, ?y457⟩) (by assumption) ?r457
        case y457 => (intro w hSw; (try dsimp only at hSw); go_simp; try (with_reducible rfl))
        simp only [List.getElem_toArray, List.getElem_cons_succ, List.getElem_cons_zero, Act.put, List.setIfInBounds_toArray, List.set_cons_zero, List.set_cons_succ]
        refine wpAnyH_take (i := 17) (v := ?v458) rfl (by kernel_rfl) (by kernel_rfl) (by kernel_rfl) (fun _ _ _ h => h) (Or.inl ⟨by rfl, ?y458⟩) (by assumption) ?r458
        case y458 => (intro w hSw; (try dsimp only at hSw); go_simp; try (with_reducible rfl))
        simp only [List.getElem_toArray, List.getElem_cons_succ, List.getElem_cons_zero, Act.put, List.setIfInBounds_toArray, List.set_cons_zero, List.set_cons_succ]
        refine wpAnyH_take (i := 18) (v := ?v459) rfl (by kernel_rfl) (by kernel_rfl) (by kernel_rfl) (fun _ _ _ h => h) (Or.inl ⟨by rfl, ?y459⟩) (by assumption) ?r459
        case y459 => (intro w hSw; (try dsimp only at hSw); go_simp; try (with_reducible rfl))
        simp only [List.getElem_toArray, List.getElem_cons_succ, List.getElem_cons_zero, Act.put, List.setIfInBounds_toArray, List.set_cons_zero, List.set_cons_succ]
        refine wpAnyH_take (i := 19) (v := ?v460) rfl (by kernel_rfl) (by kernel_rfl) (by kernel_rfl) (fun _ _ _ h => h) (Or.inl ⟨by rfl, ?y460⟩) (by assumption) ?r460
        case y460 => (intro w hSw; (try dsimp only at hSw); go_simp; try (with_reducible rfl))
        simp only [List.getElem_toArray, List.getElem_cons_succ, List.getElem_cons_zero, Act.put, List.setIfInBounds_toArray, List.set_cons_zero, List.set_cons_succ]
        refine wpAnyH_take (i := 20) (v := ?v461) rfl (by kernel_rfl) (by kernel_rfl) (by kernel_rfl) (fun _ _ _ h => h) (Or.inl ⟨by rfl, ?y461⟩) (by assumption) ?r461
        case y461 => (intro w hSw; (try dsimp only at hSw); go_simp; try (with_reducible rfl))
        simp only [List.getElem_toArray, List.getElem_cons_succ, List.getElem_cons_zero, Act.put, List.setIfInBounds_toArray, List.set_cons_zero, List.set_cons_succ]
        refine wpAnyH_take (i := 21) (v := ?v462) rfl (by kernel_rfl) (by kernel_rfl) (by kernel_rfl) (fun _ _ _ h => h) (Or.inl ⟨by rfl, ?y462⟩) (by assumption) ?r462
        case y462 => (intro w hSw; (try dsimp only at hSw); go_simp; try (with_reducible rfl))
        simp only [List.getElem_toArray, List.getElem_cons_succ, List.getElem_cons_zero, Act.put, List.setIfInBounds_toArray, List.set_cons_zero, List.set_cons_succ]
        refine wpAnyH_take (i := 22) (v := ?v463) rfl (by kernel_rfl) (by kernel_rfl) (by kernel_rfl) (fun _ _ _ h => h) (Or.inl ⟨by rfl, ?y463⟩) (by assumption) ?r463
        case y463 => (intro w hSw; (try dsimp only at hSw); go_simp; try (with_reducible rfl))
        simp only [List.getElem_toArray, List.getElem_cons_succ, List.getElem_cons_zero, Act.put, List.setIfInBounds_toArray, List.set_cons_zero, List.set_cons_succ]
        refine wpAnyH_take (i := 23) (v := ?v464) rfl (by kernel_rfl) (by kernel_rfl) (by kernel_rfl) (fun _ _ _ h => h) (Or.inl ⟨by rfl, ?y464⟩) (by assumption) ?r464
        case y464 => (intro w hSw; (try dsimp only at hSw); go_simp; try (with_reducible rfl))
        simp only [List.getElem_toArray, List.getElem_cons_succ, List.getElem_cons_zero, Act.put, List.setIfInBounds_toArray, List.set_cons_zero, List.set_cons_succ]
        refine wpAnyH_take (i := 24) (v := ?v465) rfl (by kernel_rfl) (by kernel_rfl) (by kernel_rfl) (fun _ _ _ h => h) (Or.inl ⟨by rfl, ?y465⟩) (by assumption) ?r465
        case y465 => (intro w hSw; (try dsimp only at hSw); go_simp; try (with_reducible rfl))
        simp only [List.getElem_toArray, List.getElem_cons_succ, List.getElem_cons_zero, Act.put, List.setIfInBounds_toArray, List.set_cons_zero, List.set_cons_succ]
        refine wpAnyH_take (i := 25) (v := ?v466) rfl (by kernel_rfl) (by kernel_rfl) (by kernel_rfl) (fun _ _ _ h => h) (Or.inl ⟨by rfl, ?y466⟩) (by assumption) ?r466
        case y466 => (intro w hSw; (try dsimp only at hSw); go_simp; try (with_reducible rfl))
        simp only [List.getElem_toArray, List.getElem_cons_succ, List.getElem_cons_zero, Act.put, List.setIfInBounds_toArray, List.set_cons_zero, List.set_cons_succ]
        refine wpAnyH_take (i := 26) (v := ?v467) rfl (by kernel_rfl) (by kernel_rfl) (by kernel_rfl) (fun _ _ _ h => h) (Or.inl ⟨by rfl, ?y467⟩) (by assumption) ?r467
        case y467 => (intro w hSw; (try dsimp only at hSw); go_simp; try (with_reducible rfl))
        simp only [List.getElem_toArray, List.getElem_cons_succ, List.getElem_cons_zero, Act.put, List.setIfInBounds_toArray, List.set_cons_zero, List.set_cons_succ]
        refine wpAnyH_take (i := 27) (v := ?v468) rfl (by kernel_rfl) (by kernel_rfl) (by kernel_rfl) (fun _ _ _ h => h) (Or.inl ⟨by rfl, ?y468⟩) (by assumption) ?r468
        case y468 => (intro w hSw; (try dsimp only at hSw); go_simp; try (with_reducible rfl))
        simp only [List.getElem_toArray, List.getElem_cons_succ, List.getElem_cons_zero, Act.put, List.setIfInBounds_toArray, List.set_cons_zero, List.set_cons_succ]
        refine wpAnyH_take (i := 28) (v := ?v469) rfl (by kernel_rfl) (by kernel_rfl) (by kernel_rfl) (fun _ _ _ h => h) (Or.inl ⟨by rfl, ?y469⟩) (by assumption) ?r469
        case y469 => (intro w hSw; (try dsimp only at hSw); go_simp; try (with_reducible rfl))
        simp only [List.getElem_toArray, List.getElem_cons_succ, List.getElem_cons_zero, Act.put, List.setIfInBounds_toArray, List.set_cons_zero, List.set_cons_succ]
        refine wpAnyH_take (i := 29) (v := ?v470) rfl (by kernel_rfl) (by kernel_rfl) (by kernel_rfl) (fun _ _ _ h => h) (Or.inl ⟨by rfl, ?y470⟩) (by assumption) ?r470
        case y470 => (intro w hSw; (try dsimp only at hSw); go_simp; try (with_reducible rfl))
        simp only [List.getElem_toArray, List.getElem_cons_succ, List.getElem_cons_zero, Act.put, List.setIfInBounds_toArray, List.set_cons_zero, List.set_cons_succ]
        refine wpAnyH_take (i := 30) (v := ?v471) rfl (by kernel_rfl) (by kernel_rfl) (by kernel_rfl) (fun _ _ _ h => h) (Or.inl ⟨by rfl, ?y471⟩) (by assumption) ?r471
        case y471 => (intro w hSw; (try dsimp only at hSw); go_simp; try (with_reducible rfl))
        simp only [List.getElem_toArray, List.getElem_cons_succ, List.getElem_cons_zero, Act.put, List.setIfInBounds_toArray, List.set_cons_zero, List.set_cons_succ]
        refine wpAnyH_take (i := 31) (v := ?v472) rfl (by kernel_rfl) (by kernel_rfl) (by kernel_rfl) (fun _ _ _ h => h) (Or.inl ⟨by rfl, ?y472⟩) (by assumption) ?r472
        case y472 => (intro w hSw; (try dsimp only at hSw); go_simp; try (with_reducible rfl))
        simp only [List.getElem_toArray, List.getElem_cons_succ, List.getElem_cons_zero, Act.put, List.setIfInBounds_toArray, List.set_cons_zero, List.set_cons_succ]
        refine wpAnyH_take (i := 32) (v := ?v473) rfl (by kernel_rfl) (by kernel_rfl) (by kernel_rfl) (fun _ _ _ h => h) (Or.inl ⟨by rfl, ?y473⟩) (by assumption) ?r473
        case y473 => (intro w hSw; (try dsimp only at hSw); go_simp; try (with_reducible rfl))
        simp only [List.getElem_toArray, List.getElem_cons_succ, List.getElem_cons_zero, Act.put, List.setIfInBounds_toArray, List.set_cons_zero, List.set_cons_succ]
        refine wpAnyH_take (i := 33) (v := ?v474) rfl (by kernel_rfl) (by kernel_rfl) (by kernel_rfl) (fun _ _ _ h => h) (Or.inl ⟨by rfl, ?y474⟩) (by assumption) ?r474
        case y474 => (intro w hSw; (try dsimp only at hSw); go_simp; try (with_reducible rfl))
        simp only [List.getElem_toArray, List.getElem_cons_succ, List.getElem_cons_zero, Act.put, List.setIfInBounds_toArray, List.set_cons_zero, List.set_cons_succ]
        refine wpAnyH_take (i := 34) (v := ?v475) rfl (by kernel_rfl) (by kernel_rfl) (by kernel_rfl) (fun _ _ _ h => h) (Or.inl ⟨by rfl, ?y475⟩) (by assumption) ?r475
        case y475 => (intro w hSw; (try dsimp only at hSw); go_simp; try (with_reducible rfl))
        simp only [List.getElem_toArray, List.getElem_cons_succ, List.getElem_cons_zero, Act.put, List.setIfInBounds_toArray, List.set_cons_zero, List.set_cons_succ]
        refine wpAnyH_take (i := 35) (v := ?v476) rfl (by kernel_rfl) (by kernel_rfl) (by kernel_rfl) (fun _ _ _ h => h) (Or.inl ⟨by rfl, ?y476⟩) (by assumption) ?r476
        case y476 => (intro w hSw; (try dsimp only at hSw); go_simp; try (with_reducible rfl))
        simp only [List.getElem_toArray, List.getElem_cons_succ, List.getElem_cons_zero, Act.put, List.setIfInBounds_toArray, List.set_cons_zero, List.set_cons_succ]
        refine wpAnyH_take (i := 36) (v := ?v477) rfl (by kernel_rfl) (by kernel_rfl) (by kernel_rfl) (fun _ _ _ h => h) (Or.inl ⟨by rfl, ?y477⟩) (by assumption) ?r477
        case y477 => (intro w hSw; (try dsimp only at hSw); go_simp; try (with_reducible rfl))
        simp only [List.getElem_toArray, List.getElem_cons_succ, List.getElem_cons_zero, Act.put, List.setIfInBounds_toArray, List.set_cons_zero, List.set_cons_succ]
        refine wpAnyH_done (by kernel_rfl) ?_ _
        have B1 := hide (BX.out.trans (((Below.refl _ _).drew.trans (hb1.mono (Nat.le_refl _))).mono BX.out.size))
        clear hHeld hb1
        go_wp2
        go_ret
        exact ⟨by rw [E.out]; rfl, B1.out⟩
    · have E : Hid (bb = false) := bool_no10 HBB.out (fun h => hno ⟨h.n0, by have h1 := h.n1; simp only [Int.toNat_natCast] at h1; rw [← HL.out, ← HQ.out] at h1; exact h1⟩)
      have HNO := hide hno
      by_cases n0 : 0 ≤ no
      · have n1 : ¬ no < (q : Int) := fun h => HNO.out ⟨n0, h⟩
        have n2 : (q : Int) ≤ no := by omega
        clear hq hno
        go_enter Try.func44, Try.ntmps44
        go_upto_region 1 with fail
        rw [HW.out]
        refine wp_region_held_drew (S := (fun wx => wx.cell? ⟨w.heap.size, 0, none⟩ = some (.slice (some ⟨tb, tf, none⟩) nT cT) ∧ wx.cell? ⟨w.heap.size, 1, none⟩ = some (.slice aH nH cH) ∧ wx.cell? ⟨w.heap.size, 2, none⟩ = some (.slice aL nL cL) ∧ wx.cell? ⟨w.heap.size, 3, none⟩ = some (.slice aG nG cG) ∧ wx.cell? ⟨w.heap.size, 4, none⟩ = some (.slice aN nN cN) ∧ wx.cell? ⟨w.heap.size + 1, 0, none⟩ = some (.int .i64 (u : Int)) ∧ wx.cell? ⟨w.heap.size + 1, 1, none⟩ = some (.int .i64 no) ∧ wx.cell? ⟨w.heap.size + 1, 2, none⟩ = some (.string t) ∧ wx.cell? ⟨tb, tf + u, none⟩ = some (.slice ai q ci))) (by kernel_rfl) ⟨k0, k1, k2, k3, k4, j0, j1, j2, hc⟩ (fun hHeld => ?_)
        refine wpAnyH_take (i := 0) (v := ?v334) rfl (by kernel_rfl) (by kernel_rfl) (by kernel_rfl) (fun _ _ _ h => h) (Or.inl ⟨by rfl, ?y334⟩) (by assumption) ?r334
        case y334 => (intro w hSw; (try dsimp only at hSw); go_simp; try (with_reducible rfl))
        simp only [List.getElem_toArray, List.getElem_cons_zero, Act.put, List.setIfInBounds_toArray, List.set_cons_zero, List.set_cons_succ]
        refine wpAnyH_take (i := 1) (v := ?v335) rfl (by kernel_rfl) (by kernel_rfl) (by kernel_rfl) (fun _ _ _ h => h) (Or.inl ⟨by rfl, ?y335⟩) (by assumption) ?r335
        case y335 => (intro w hSw; (try dsimp only at hSw); go_simp; try (with_reducible rfl))
        simp only [List.getElem_toArray, List.getElem_cons_succ, List.getElem_cons_zero, Act.put, List.setIfInBounds_toArray, List.set_cons_zero, List.set_cons_succ]
        refine wpAnyH_take (i := 2) (v := ?v336) rfl (by kernel_rfl) (by kernel_rfl) (by kernel_rfl) (fun _ _ _ h => h) (Or.inl ⟨by rfl, ?y336⟩) (by assumption) ?r336
        case y336 => (intro w hSw; (try dsimp only at hSw); go_simp; try (with_reducible rfl))
        simp only [List.getElem_toArray, List.getElem_cons_succ, List.getElem_cons_zero, Act.put, List.setIfInBounds_toArray, List.set_cons_zero, List.set_cons_succ]
        refine wpAnyH_ready (rs := [3]) (by kernel_rfl) (by simp) ?_
        refine AllReadyH.cons rfl (fun K hK => ?_) AllReadyH.nil
        simp only [List.getElem_toArray, List.getElem_cons_succ, List.getElem_cons_zero]
        go_simp
        go_at_call 43
        refine (C1.out _ ((Below.refl _ _).drew)).mono ?_
        rintro e w1 ⟨rfl, hb1⟩
        dsimp only
        refine hK.out _ _ ?_ (fun hHeld => ?_)
        · exact keepV9 hHeld hb1
        clear hK K
        try simp only [Act.put, List.setIfInBounds_toArray, List.set_cons_zero, List.set_cons_succ]
        refine wpAnyH_take (i := 4) (v := ?v337) rfl (by kernel_rfl) (by kernel_rfl) (by kernel_rfl) (fun _ _ _ h => h) (Or.inl ⟨by rfl, ?y337⟩) (by assumption) ?r337
        case y337 => (intro w hSw; (try dsimp only at hSw); go_simp; try (with_reducible rfl))
        simp only [List.getElem_toArray, List.getElem_cons_succ, List.getElem_cons_zero, Act.put, List.setIfInBounds_toArray, List.set_cons_zero, List.set_cons_succ]
        refine wpAnyH_take (i := 5) (v := ?v338) rfl (by kernel_rfl) (by kernel_rfl) (by kernel_rfl) (fun _ _ _ h => h) (Or.inl ⟨by rfl, ?y338⟩) (by assumption) ?r338
        case y338 => (intro w hSw; (try dsimp only at hSw); go_simp; try (with_reducible rfl))
        simp only [List.getElem_toArray, List.getElem_cons_succ, List.getElem_cons_zero, Act.put, List.setIfInBounds_toArray, List.set_cons_zero, List.set_cons_succ]
        refine wpAnyH_take (i := 6) (v := ?v339) rfl (by kernel_rfl) (by kernel_rfl) (by kernel_rfl) (fun _ _ _ h => h) (Or.inl ⟨by rfl, ?y339⟩) (by assumption) ?r339
        case y339 => (intro w hSw; (try dsimp only at hSw); go_simp; try (with_reducible rfl))
        simp only [List.getElem_toArray, List.getElem_cons_succ, List.getElem_cons_zero, Act.put, List.setIfInBounds_toArray, List.set_cons_zero, List.set_cons_succ]
        refine wpAnyH_take (i := 7) (v := ?v340) rfl (by kernel_rfl) (by kernel_rfl) (by kernel_rfl) (fun _ _ _ h => h) (Or.inl ⟨by rfl, ?y340⟩) (by assumption) ?r340
        case y340 => (intro w hSw; (try dsimp only at hSw); go_simp; try (with_reducible rfl))
        simp only [List.getElem_toArray, List.getElem_cons_succ, List.getElem_cons_zero, Act.put, List.setIfInBounds_toArray, List.set_cons_zero, List.set_cons_succ]
        refine wpAnyH_take (i := 8) (v := ?v341) rfl (by kernel_rfl) (by kernel_rfl) (by kernel_rfl) (fun _ _ _ h => h) (Or.inl ⟨by rfl, ?y341⟩) (by assumption) ?r341
        case y341 => (intro w hSw; (try dsimp only at hSw); go_simp; try (with_reducible rfl))
        simp only [List.getElem_toArray, List.getElem_cons_succ, List.getElem_cons_zero, Act.put, List.setIfInBounds_toArray, List.set_cons_zero, List.set_cons_succ]
        refine wpAnyH_take (i := 9) (v := ?v342) rfl (by kernel_rfl) (by kernel_rfl) (by kernel_rfl) (fun _ _ _ h => h) (Or.inl ⟨by rfl, ?y342⟩) (by assumption) ?r342
        case y342 => (intro w hSw; (try dsimp only at hSw); go_simp; try (with_reducible rfl))
        simp only [List.getElem_toArray, List.getElem_cons_succ, List.getElem_cons_zero, Act.put, List.setIfInBounds_toArray, List.set_cons_zero, List.set_cons_succ]
        refine wpAnyH_take (i := 10) (v := ?v343) rfl (by kernel_rfl) (by kernel_rfl) (by kernel_rfl) (fun _ _ _ h => h) (Or.inl ⟨by rfl, ?y343⟩) (by assumption) ?r343
        case y343 => (intro w hSw; (try dsimp only at hSw); go_simp; try (with_reducible rfl))
        simp only [List.getElem_toArray, List.getElem_cons_succ, List.getElem_cons_zero, Act.put, List.setIfInBounds_toArray, List.set_cons_zero, List.set_cons_succ]
        refine wpAnyH_take (i := 11) (v := ?v344) rfl (by kernel_rfl) (by kernel_rfl) (by kernel_rfl) (fun _ _ _ h => h) (Or.inl ⟨by rfl, ?y344⟩) (by assumption) ?r344
        case y344 => (intro w hSw; (try dsimp only at hSw); go_simp; try (with_reducible rfl))
        simp only [List.getElem_toArray, List.getElem_cons_succ, List.getElem_cons_zero, Act.put, List.setIfInBounds_toArray, List.set_cons_zero, List.set_cons_succ]
        refine wpAnyH_take (i := 12) (v := ?v345) rfl (by kernel_rfl) (by kernel_rfl) (by kernel_rfl) (fun _ _ _ h => h) (Or.inl ⟨by rfl, ?y345⟩) (by assumption) ?r345
        case y345 => (intro w hSw; (try dsimp only at hSw); go_simp; try (with_reducible rfl))
        simp only [List.getElem_toArray, List.getElem_cons_succ, List.getElem_cons_zero, Act.put, List.setIfInBounds_toArray, List.set_cons_zero, List.set_cons_succ]
        refine wpAnyH_take (i := 13) (v := ?v346) rfl (by kernel_rfl) (by kernel_rfl) (by kernel_rfl) (fun _ _ _ h => h) (Or.inl ⟨by rfl, ?y346⟩) (by assumption) ?r346
        case y346 => (intro w hSw; (try dsimp only at hSw); go_simp; try (with_reducible rfl))
        simp only [List.getElem_toArray, List.getElem_cons_succ, List.getElem_cons_zero, Act.put, List.setIfInBounds_toArray, List.set_cons_zero, List.set_cons_succ]
        refine wpAnyH_take (i := 14) (v := ?v347) rfl (by kernel_rfl) (by kernel_rfl) (by kernel_rfl) (fun _ _ _ h => h) (Or.inl ⟨by rfl, ?y347⟩) (by assumption) ?r347
        case y347 => (intro w hSw; (try dsimp only at hSw); go_simp; try (with_reducible rfl))
        simp only [List.getElem_toArray, List.getElem_cons_succ, List.getElem_cons_zero, Act.put, List.setIfInBounds_toArray, List.set_cons_zero, List.set_cons_succ]
        refine wpAnyH_take (i := 15) (v := ?v348) rfl (by kernel_rfl) (by kernel_rfl) (by kernel_rfl) (fun _ _ _ h => h) (Or.inl ⟨by rfl, ?y348⟩) (by assumption) ?r348
        case y348 => (intro w hSw; (try dsimp only at hSw); go_simp; try (with_reducible rfl))
        simp only [List.getElem_toArray, List.getElem_cons_succ, List.getElem_cons_zero, Act.put, List.setIfInBounds_toArray, List.set_cons_zero, List.set_cons_succ]
        refine wpAnyH_take (i := 16) (v := ?v349) rfl (by kernel_rfl) (by kernel_rfl) (by kernel_rfl) (fun _ _ _ h => h) (Or.inl ⟨by rfl, ?y349⟩) (by assumption) ?r349
        case y349 => (intro w hSw; (try dsimp only at hSw); go_simp; try (with_reducible rfl))
        simp only [List.getElem_toArray, List.getElem_cons_succ, List.getElem_cons_zero, Act.put, List.setIfInBounds_toArray, List.set_cons_zero, List.set_cons_succ]
        refine wpAnyH_take (i := 17) (v := ?v350) rfl (by kernel_rfl) (by kernel_rfl) (by kernel_rfl) (fun _ _ _ h => h) (Or.inl ⟨by rfl, ?y350⟩) (by assumption) ?r350
        case y350 => (intro w hSw; (try dsimp only at hSw); go_simp; try (with_reducible rfl))
        simp only [List.getElem_toArray, List.getElem_cons_succ, List.getElem_cons_zero, Act.put, List.setIfInBounds_toArray, List.set_cons_zero, List.set_cons_succ]
        refine wpAnyH_take (i := 18) (v := ?v351) rfl (by kernel_rfl) (by kernel_rfl) (by kernel_rfl) (fun _ _ _ h => h) (Or.inl ⟨by rfl, ?y351⟩) (by assumption) ?r351
        case y351 => (intro w hSw; (try dsimp only at hSw); go_simp; try (with_reducible rfl))
        simp only [List.getElem_toArray, List.getElem_cons_succ, List.getElem_cons_zero, Act.put, List.setIfInBounds_toArray, List.set_cons_zero, List.set_cons_succ]
        refine wpAnyH_take (i := 19) (v := ?v352) rfl (by kernel_rfl) (by kernel_rfl) (by kernel_rfl) (fun _ _ _ h => h) (Or.inl ⟨by rfl, ?y352⟩) (by assumption) ?r352
        case y352 => (intro w hSw; (try dsimp only at hSw); go_simp; try (with_reducible rfl))
        simp only [List.getElem_toArray, List.getElem_cons_succ, List.getElem_cons_zero, Act.put, List.setIfInBounds_toArray, List.set_cons_zero, List.set_cons_succ]
        refine wpAnyH_take (i := 20) (v := ?v353) rfl (by kernel_rfl) (by kernel_rfl) (by kernel_rfl) (fun _ _ _ h => h) (Or.inl ⟨by rfl, ?y353⟩) (by assumption) ?r353
        case y353 => (intro w hSw; (try dsimp only at hSw); go_simp; try (with_reducible rfl))
        simp only [List.getElem_toArray, List.getElem_cons_succ, List.getElem_cons_zero, Act.put, List.setIfInBounds_toArray, List.set_cons_zero, List.set_cons_succ]
        refine wpAnyH_take (i := 21) (v := ?v354) rfl (by kernel_rfl) (by kernel_rfl) (by kernel_rfl) (fun _ _ _ h => h) (Or.inl ⟨by rfl, ?y354⟩) (by assumption) ?r354
        case y354 => (intro w hSw; (try dsimp only at hSw); go_simp; try (with_reducible rfl))
        simp only [List.getElem_toArray, List.getElem_cons_succ, List.getElem_cons_zero, Act.put, List.setIfInBounds_toArray, List.set_cons_zero, List.set_cons_succ]
        refine wpAnyH_take (i := 22) (v := undef) rfl (by kernel_rfl) (by kernel_rfl) (by kernel_rfl) (fun _ _ _ h => h) (Or.inr ⟨by rfl, rfl⟩) (by assumption) ?_
        simp only [List.getElem_toArray, List.getElem_cons_succ, List.getElem_cons_zero, Act.put, List.setIfInBounds_toArray, List.set_cons_zero, List.set_cons_succ]
        refine wpAnyH_take (i := 23) (v := undef) rfl (by kernel_rfl) (by kernel_rfl) (by kernel_rfl) (fun _ _ _ h => h) (Or.inr ⟨by rfl, rfl⟩) (by assumption) ?_
        simp only [List.getElem_toArray, List.getElem_cons_succ, List.getElem_cons_zero, Act.put, List.setIfInBounds_toArray, List.set_cons_zero, List.set_cons_succ]
        refine wpAnyH_take (i := 24) (v := undef) rfl (by kernel_rfl) (by kernel_rfl) (by kernel_rfl) (fun _ _ _ h => h) (Or.inr ⟨by rfl, rfl⟩) (by assumption) ?_
        simp only [List.getElem_toArray, List.getElem_cons_succ, List.getElem_cons_zero, Act.put, List.setIfInBounds_toArray, List.set_cons_zero, List.set_cons_succ]
        refine wpAnyH_take (i := 25) (v := undef) rfl (by kernel_rfl) (by kernel_rfl) (by kernel_rfl) (fun _ _ _ h => h) (Or.inr ⟨by rfl, rfl⟩) (by assumption) ?_
        simp only [List.getElem_toArray, List.getElem_cons_succ, List.getElem_cons_zero, Act.put, List.setIfInBounds_toArray, List.set_cons_zero, List.set_cons_succ]
        refine wpAnyH_take (i := 26) (v := undef) rfl (by kernel_rfl) (by kernel_rfl) (by kernel_rfl) (fun _ _ _ h => h) (Or.inr ⟨by rfl, rfl⟩) (by assumption) ?_
        simp only [List.getElem_toArray, List.getElem_cons_succ, List.getElem_cons_zero, Act.put, List.setIfInBounds_toArray, List.set_cons_zero, List.set_cons_succ]
        refine wpAnyH_take (i := 27) (v := undef) rfl (by kernel_rfl) (by kernel_rfl) (by kernel_rfl) (fun _ _ _ h => h) (Or.inr ⟨by rfl, rfl⟩) (by assumption) ?_
        simp only [List.getElem_toArray, List.getElem_cons_succ, List.getElem_cons_zero, Act.put, List.setIfInBounds_toArray, List.set_cons_zero, List.set_cons_succ]
        refine wpAnyH_take (i := 28) (v := undef) rfl (by kernel_rfl) (by kernel_rfl) (by kernel_rfl) (fun _ _ _ h => h) (Or.inr ⟨by rfl, rfl⟩) (by assumption) ?_
        simp only [List.getElem_toArray, List.getElem_cons_succ, List.getElem_cons_zero, Act.put, List.setIfInBounds_toArray, List.set_cons_zero, List.set_cons_succ]
        refine wpAnyH_take (i := 29) (v := undef) rfl (by kernel_rfl) (by kernel_rfl) (by kernel_rfl) (fun _ _ _ h => h) (Or.inr ⟨by rfl, rfl⟩) (by assumption) ?_
        simp only [List.getElem_toArray, List.getElem_cons_succ, List.getElem_cons_zero, Act.put, List.setIfInBounds_toArray, List.set_cons_zero, List.set_cons_succ]
        refine wpAnyH_take (i := 30) (v := undef) rfl (by kernel_rfl) (by kernel_rfl) (by kernel_rfl) (fun _ _ _ h => h) (Or.inr ⟨by rfl, rfl⟩) (by assumption) ?_
        simp only [List.getElem_toArray, List.getElem_cons_succ, List.getElem_cons_zero, Act.put, List.setIfInBounds_toArray, List.set_cons_zero, List.set_cons_succ]
        refine wpAnyH_take (i := 31) (v := undef) rfl (by kernel_rfl) (by kernel_rfl) (by kernel_rfl) (fun _ _ _ h => h) (Or.inr ⟨by rfl, rfl⟩) (by assumption) ?_
        simp only [List.getElem_toArray, List.getElem_cons_succ, List.getElem_cons_zero, Act.put, List.setIfInBounds_toArray, List.set_cons_zero, List.set_cons_succ]
        refine wpAnyH_take (i := 32) (v := undef) rfl (by kernel_rfl) (by kernel_rfl) (by kernel_rfl) (fun _ _ _ h => h) (Or.inr ⟨by rfl, rfl⟩) (by assumption) ?_
        simp only [List.getElem_toArray, List.getElem_cons_succ, List.getElem_cons_zero, Act.put, List.setIfInBounds_toArray, List.set_cons_zero, List.set_cons_succ]
        refine wpAnyH_take (i := 33) (v := undef) rfl (by kernel_rfl) (by kernel_rfl) (by kernel_rfl) (fun _ _ _ h => h) (Or.inr ⟨by rfl, rfl⟩) (by assumption) ?_
        simp only [List.getElem_toArray, List.getElem_cons_succ, List.getElem_cons_zero, Act.put, List.setIfInBounds_toArray, List.set_cons_zero, List.set_cons_succ]
        refine wpAnyH_take (i := 34) (v := undef) rfl (by kernel_rfl) (by kernel_rfl) (by kernel_rfl) (fun _ _ _ h => h) (Or.inr ⟨by rfl, rfl⟩) (by assumption) ?_
        simp only [List.getElem_toArray, List.getElem_cons_succ, List.getElem_cons_zero, Act.put, List.setIfInBounds_toArray, List.set_cons_zero, List.set_cons_succ]
        refine wpAnyH_take (i := 35) (v := ?v368) rfl (by kernel_rfl) (by kernel_rfl) (by kernel_rfl) (fun _ _ _ h => h) (Or.inl ⟨by rfl, ?y368⟩) (by assumption) ?r368
        case y368 => (intro w hSw; (try dsimp only at hSw); go_simp; try (with_reducible rfl))
        simp only [List.getElem_toArray, List.getElem_cons_succ, List.getElem_cons_zero, Act.put, List.setIfInBounds_toArray, List.set_cons_zero, List.set_cons_succ]
        refine wpAnyH_take (i := 36) (v := ?v369) rfl (by kernel_rfl) (by kernel_rfl) (by kernel_rfl) (fun _ _ _ h => h) (Or.inl ⟨by rfl, ?y369⟩) (by assumption) ?r369
        case y369 => (intro w hSw; (try dsimp only at hSw); go_simp; try (with_reducible rfl))
        simp only [List.getElem_toArray, List.getElem_cons_succ, List.getElem_cons_zero, Act.put, List.setIfInBounds_toArray, List.set_cons_zero, List.set_cons_succ]
        refine wpAnyH_done (by kernel_rfl) ?_ _
        have B1 := hide (BX.out.trans (((Below.refl _ _).drew.trans (hb1.mono (Nat.le_refl _))).mono BX.out.size))
        clear hHeld hb1
        go_wp2
        go_ret
        exact ⟨by rw [E.out]; rfl, B1.out⟩
      · have n2 : no < 0 := by omega
        clear hq hno
        go_enter Try.func44, Try.ntmps44
        go_upto_region 1 with fail
        rw [HW.out]
        refine wp_region_held_drew (S := (fun wx => wx.cell? ⟨w.heap.size, 0, none⟩ = some (.slice (some ⟨tb, tf, none⟩) nT cT) ∧ wx.cell? ⟨w.heap.size, 1, none⟩ = some (.slice aH nH cH) ∧ wx.cell? ⟨w.heap.size, 2, none⟩ = some (.slice aL nL cL) ∧ wx.cell? ⟨w.heap.size, 3, none⟩ = some (.slice aG nG cG) ∧ wx.cell? ⟨w.heap.size, 4, none⟩ = some (.slice aN nN cN) ∧ wx.cell? ⟨w.heap.size + 1, 0, none⟩ = some (.int .i64 (u : Int)) ∧ wx.cell? ⟨w.heap.size + 1, 1, none⟩ = some (.int .i64 no) ∧ wx.cell? ⟨w.heap.size + 1, 2, none⟩ = some (.string t) ∧ wx.cell? ⟨tb, tf + u, none⟩ = some (.slice ai q ci))) (by kernel_rfl) ⟨k0, k1, k2, k3, k4, j0, j1, j2, hc⟩ (fun hHeld => ?_)
        refine wpAnyH_take (i := 0) (v := ?v370) rfl (by kernel_rfl) (by kernel_rfl) (by kernel_rfl) (fun _ _ _ h => h) (Or.inl ⟨by rfl, ?y370⟩) (by assumption) ?r370
        case y370 => (intro w hSw; (try dsimp only at hSw); go_simp; try (with_reducible rfl))
        simp only [List.getElem_toArray, List.getElem_cons_zero, Act.put, List.setIfInBounds_toArray, List.set_cons_zero, List.set_cons_succ]
        refine wpAnyH_take (i := 1) (v := ?v371) rfl (by kernel_rfl) (by kernel_rfl) (by kernel_rfl) (fun _ _ _ h => h) (Or.inl ⟨by rfl, ?y371⟩) (by assumption) ?r371
        case y371 => (intro w hSw; (try dsimp only at hSw); go_simp; try (with_reducible rfl))
        simp only [List.getElem_toArray, List.getElem_cons_succ, List.getElem_cons_zero, Act.put, List.setIfInBounds_toArray, List.set_cons_zero, List.set_cons_succ]
        refine wpAnyH_take (i := 2) (v := ?v372) rfl (by kernel_rfl) (by kernel_rfl) (by kernel_rfl) (fun _ _ _ h => h) (Or.inl ⟨by rfl, ?y372⟩) (by assumption) ?r372
        case y372 => (intro w hSw; (try dsimp only at hSw); go_simp; try (with_reducible rfl))
        simp only [List.getElem_toArray, List.getElem_cons_succ, List.getElem_cons_zero, Act.put, List.setIfInBounds_toArray, List.set_cons_zero, List.set_cons_succ]
        refine wpAnyH_ready (rs := [3]) (by kernel_rfl) (by simp) ?_
        refine AllReadyH.cons rfl (fun K hK => ?_) AllReadyH.nil
        simp only [List.getElem_toArray, List.getElem_cons_succ, List.getElem_cons_zero]
        go_simp
        go_at_call 43
        refine (C1.out _ ((Below.refl _ _).drew)).mono ?_
        rintro e w1 ⟨rfl, hb1⟩
        dsimp only
        refine hK.out _ _ ?_ (fun hHeld => ?_)
        · exact keepV9 hHeld hb1
        clear hK K
        try simp only [Act.put, List.setIfInBounds_toArray, List.set_cons_zero, List.set_cons_succ]
        refine wpAnyH_take (i := 4) (v := ?v373) rfl (by kernel_rfl) (by kernel_rfl) (by kernel_rfl) (fun _ _ _ h => h) (Or.inl ⟨by rfl, ?y373⟩) (by assumption) ?r373
        case y373 => (intro w hSw; (try dsimp only at hSw); go_simp; try (with_reducible rfl))
        simp only [List.getElem_toArray, List.getElem_cons_succ, List.getElem_cons_zero, Act.put, List.setIfInBounds_toArray, List.set_cons_zero, List.set_cons_succ]
        refine wpAnyH_take (i := 5) (v := ?v374) rfl (by kernel_rfl) (by kernel_rfl) (by kernel_rfl) (fun _ _ _ h => h) (Or.inl ⟨by rfl, ?y374⟩) (by assumption) ?r374
        case y374 => (intro w hSw; (try dsimp only at hSw); go_simp; try (with_reducible rfl))
        simp only [List.getElem_toArray, List.getElem_cons_succ, List.getElem_cons_zero, Act.put, List.setIfInBounds_toArray, List.set_cons_zero, List.set_cons_succ]
        refine wpAnyH_take (i := 6) (v := ?v375) rfl (by kernel_rfl) (by kernel_rfl) (by kernel_rfl) (fun _ _ _ h => h) (Or.inl ⟨by rfl, ?y375⟩) (by assumption) ?r375
        case y375 => (intro w hSw; (try dsimp only at hSw); go_simp; try (with_reducible rfl))
        simp only [List.getElem_toArray, List.getElem_cons_succ, List.getElem_cons_zero, Act.put, List.setIfInBounds_toArray, List.set_cons_zero, List.set_cons_succ]
        refine wpAnyH_take (i := 7) (v := ?v376) rfl (by kernel_rfl) (by kernel_rfl) (by kernel_rfl) (fun _ _ _ h => h) (Or.inl ⟨by rfl, ?y376⟩) (by assumption) ?r376
        case y376 => (intro w hSw; (try dsimp only at hSw); go_simp; try (with_reducible rfl))
        simp only [List.getElem_toArray, List.getElem_cons_succ, List.getElem_cons_zero, Act.put, List.setIfInBounds_toArray, List.set_cons_zero, List.set_cons_succ]
        refine wpAnyH_take (i := 8) (v := ?v377) rfl (by kernel_rfl) (by kernel_rfl) (by kernel_rfl) (fun _ _ _ h => h) (Or.inl ⟨by rfl, ?y377⟩) (by assumption) ?r377
        case y377 => (intro w hSw; (try dsimp only at hSw); go_simp; try (with_reducible rfl))
        simp only [List.getElem_toArray, List.getElem_cons_succ, List.getElem_cons_zero, Act.put, List.setIfInBounds_toArray, List.set_cons_zero, List.set_cons_succ]
        refine wpAnyH_take (i := 9) (v := ?v378) rfl (by kernel_rfl) (by kernel_rfl) (by kernel_rfl) (fun _ _ _ h => h) (Or.inl ⟨by rfl, ?y378⟩) (by assumption) ?r378
        case y378 => (intro w hSw; (try dsimp only at hSw); go_simp; try (with_reducible rfl))
        simp only [List.getElem_toArray, List.getElem_cons_succ, List.getElem_cons_zero, Act.put, List.setIfInBounds_toArray, List.set_cons_zero, List.set_cons_succ]
        refine wpAnyH_take (i := 10) (v := undef) rfl (by kernel_rfl) (by kernel_rfl) (by kernel_rfl) (fun _ _ _ h => h) (Or.inr ⟨by rfl, rfl⟩) (by assumption) ?_
        simp only [List.getElem_toArray, List.getElem_cons_succ, List.getElem_cons_zero, Act.put, List.setIfInBounds_toArray, List.set_cons_zero, List.set_cons_succ]
        refine wpAnyH_take (i := 11) (v := undef) rfl (by kernel_rfl) (by kernel_rfl) (by kernel_rfl) (fun _ _ _ h => h) (Or.inr ⟨by rfl, rfl⟩) (by assumption) ?_
        simp only [List.getElem_toArray, List.getElem_cons_succ, List.getElem_cons_zero, Act.put, List.setIfInBounds_toArray, List.set_cons_zero, List.set_cons_succ]
        refine wpAnyH_take (i := 12) (v := undef) rfl (by kernel_rfl) (by kernel_rfl) (by kernel_rfl) (fun _ _ _ h => h) (Or.inr ⟨by rfl, rfl⟩) (by assumption) ?_
        simp only [List.getElem_toArray, List.getElem_cons_succ, List.getElem_cons_zero, Act.put, List.setIfInBounds_toArray, List.set_cons_zero, List.set_cons_succ]
        refine wpAnyH_take (i := 13) (v := undef) rfl (by kernel_rfl) (by kernel_rfl) (by kernel_rfl) (fun _ _ _ h => h) (Or.inr ⟨by rfl, rfl⟩) (by assumption) ?_
        simp only [List.getElem_toArray, List.getElem_cons_succ, List.getElem_cons_zero, Act.put, List.setIfInBounds_toArray, List.set_cons_zero, List.set_cons_succ]
        refine wpAnyH_take (i := 14) (v := undef) rfl (by kernel_rfl) (by kernel_rfl) (by kernel_rfl) (fun _ _ _ h => h) (Or.inr ⟨by rfl, rfl⟩) (by assumption) ?_
        simp only [List.getElem_toArray, List.getElem_cons_succ, List.getElem_cons_zero, Act.put, List.setIfInBounds_toArray, List.set_cons_zero, List.set_cons_succ]
        refine wpAnyH_take (i := 15) (v := undef) rfl (by kernel_rfl) (by kernel_rfl) (by kernel_rfl) (fun _ _ _ h => h) (Or.inr ⟨by rfl, rfl⟩) (by assumption) ?_
        simp only [List.getElem_toArray, List.getElem_cons_succ, List.getElem_cons_zero, Act.put, List.setIfInBounds_toArray, List.set_cons_zero, List.set_cons_succ]
        refine wpAnyH_take (i := 16) (v := undef) rfl (by kernel_rfl) (by kernel_rfl) (by kernel_rfl) (fun _ _ _ h => h) (Or.inr ⟨by rfl, rfl⟩) (by assumption) ?_
        simp only [List.getElem_toArray, List.getElem_cons_succ, List.getElem_cons_zero, Act.put, List.setIfInBounds_toArray, List.set_cons_zero, List.set_cons_succ]
        refine wpAnyH_take (i := 17) (v := undef) rfl (by kernel_rfl) (by kernel_rfl) (by kernel_rfl) (fun _ _ _ h => h) (Or.inr ⟨by rfl, rfl⟩) (by assumption) ?_
        simp only [List.getElem_toArray, List.getElem_cons_succ, List.getElem_cons_zero, Act.put, List.setIfInBounds_toArray, List.set_cons_zero, List.set_cons_succ]
        refine wpAnyH_take (i := 18) (v := undef) rfl (by kernel_rfl) (by kernel_rfl) (by kernel_rfl) (fun _ _ _ h => h) (Or.inr ⟨by rfl, rfl⟩) (by assumption) ?_
        simp only [List.getElem_toArray, List.getElem_cons_succ, List.getElem_cons_zero, Act.put, List.setIfInBounds_toArray, List.set_cons_zero, List.set_cons_succ]
        refine wpAnyH_take (i := 19) (v := undef) rfl (by kernel_rfl) (by kernel_rfl) (by kernel_rfl) (fun _ _ _ h => h) (Or.inr ⟨by rfl, rfl⟩) (by assumption) ?_
        simp only [List.getElem_toArray, List.getElem_cons_succ, List.getElem_cons_zero, Act.put, List.setIfInBounds_toArray, List.set_cons_zero, List.set_cons_succ]
        refine wpAnyH_take (i := 20) (v := ?v389) rfl (by kernel_rfl) (by kernel_rfl) (by kernel_rfl) (fun _ _ _ h => h) (Or.inl ⟨by rfl, ?y389⟩) (by assumption) ?r389
        case y389 => (intro w hSw; (try dsimp only at hSw); go_simp; try (with_reducible rfl))
        simp only [List.getElem_toArray, List.getElem_cons_succ, List.getElem_cons_zero, Act.put, List.setIfInBounds_toArray, List.set_cons_zero, List.set_cons_succ]
        refine wpAnyH_take (i := 21) (v := ?v390) rfl (by kernel_rfl) (by kernel_rfl) (by kernel_rfl) (fun _ _ _ h => h) (Or.inl ⟨by rfl, ?y390⟩) (by assumption) ?r390
        case y390 => (intro w hSw; (try dsimp only at hSw); go_simp; try (with_reducible rfl))
        simp only [List.getElem_toArray, List.getElem_cons_succ, List.getElem_cons_zero, Act.put, List.setIfInBounds_toArray, List.set_cons_zero, List.set_cons_succ]
        refine wpAnyH_take (i := 22) (v := undef) rfl (by kernel_rfl) (by kernel_rfl) (by kernel_rfl) (fun _ _ _ h => h) (Or.inr ⟨by rfl, rfl⟩) (by assumption) ?_
        simp only [List.getElem_toArray, List.getElem_cons_succ, List.getElem_cons_zero, Act.put, List.setIfInBounds_toArray, List.set_cons_zero, List.set_cons_succ]
        refine wpAnyH_take (i := 23) (v := undef) rfl (by kernel_rfl) (by kernel_rfl) (by kernel_rfl) (fun _ _ _ h => h) (Or.inr ⟨by rfl, rfl⟩) (by assumption) ?_
        simp only [List.getElem_toArray, List.getElem_cons_succ, List.getElem_cons_zero, Act.put, List.setIfInBounds_toArray, List.set_cons_zero, List.set_cons_succ]
        refine wpAnyH_take (i := 24) (v := undef) rfl (by kernel_rfl) (by kernel_rfl) (by kernel_rfl) (fun _ _ _ h => h) (Or.inr ⟨by rfl, rfl⟩) (by assumption) ?_
        simp only [List.getElem_toArray, List.getElem_cons_succ, List.getElem_cons_zero, Act.put, List.setIfInBounds_toArray, List.set_cons_zero, List.set_cons_succ]
        refine wpAnyH_take (i := 25) (v := undef) rfl (by kernel_rfl) (by kernel_rfl) (by kernel_rfl) (fun _ _ _ h => h) (Or.inr ⟨by rfl, rfl⟩) (by assumption) ?_
        simp only [List.getElem_toArray, List.getElem_cons_succ, List.getElem_cons_zero, Act.put, List.setIfInBounds_toArray, List.set_cons_zero, List.set_cons_succ]
        refine wpAnyH_take (i := 26) (v := undef) rfl (by kernel_rfl) (by kernel_rfl) (by kernel_rfl) (fun _ _ _ h => h) (Or.inr ⟨by rfl, rfl⟩) (by assumption) ?_
        simp only [List.getElem_toArray, List.getElem_cons_succ, List.getElem_cons_zero, Act.put, List.setIfInBounds_toArray, List.set_cons_zero, List.set_cons_succ]
        refine wpAnyH_take (i := 27) (v := undef) rfl (by kernel_rfl) (by kernel_rfl) (by kernel_rfl) (fun _ _ _ h => h) (Or.inr ⟨by rfl, rfl⟩) (by assumption) ?_
        simp only [List.getElem_toArray, List.getElem_cons_succ, List.getElem_cons_zero, Act.put, List.setIfInBounds_toArray, List.set_cons_zero, List.set_cons_succ]
        refine wpAnyH_take (i := 28) (v := undef) rfl (by kernel_rfl) (by kernel_rfl) (by kernel_rfl) (fun _ _ _ h => h) (Or.inr ⟨by rfl, rfl⟩) (by assumption) ?_
        simp only [List.getElem_toArray, List.getElem_cons_succ, List.getElem_cons_zero, Act.put, List.setIfInBounds_toArray, List.set_cons_zero, List.set_cons_succ]
        refine wpAnyH_take (i := 29) (v := undef) rfl (by kernel_rfl) (by kernel_rfl) (by kernel_rfl) (fun _ _ _ h => h) (Or.inr ⟨by rfl, rfl⟩) (by assumption) ?_
        simp only [List.getElem_toArray, List.getElem_cons_succ, List.getElem_cons_zero, Act.put, List.setIfInBounds_toArray, List.set_cons_zero, List.set_cons_succ]
        refine wpAnyH_take (i := 30) (v := undef) rfl (by kernel_rfl) (by kernel_rfl) (by kernel_rfl) (fun _ _ _ h => h) (Or.inr ⟨by rfl, rfl⟩) (by assumption) ?_
        simp only [List.getElem_toArray, List.getElem_cons_succ, List.getElem_cons_zero, Act.put, List.setIfInBounds_toArray, List.set_cons_zero, List.set_cons_succ]
        refine wpAnyH_take (i := 31) (v := undef) rfl (by kernel_rfl) (by kernel_rfl) (by kernel_rfl) (fun _ _ _ h => h) (Or.inr ⟨by rfl, rfl⟩) (by assumption) ?_
        simp only [List.getElem_toArray, List.getElem_cons_succ, List.getElem_cons_zero, Act.put, List.setIfInBounds_toArray, List.set_cons_zero, List.set_cons_succ]
        refine wpAnyH_take (i := 32) (v := undef) rfl (by kernel_rfl) (by kernel_rfl) (by kernel_rfl) (fun _ _ _ h => h) (Or.inr ⟨by rfl, rfl⟩) (by assumption) ?_
        simp only [List.getElem_toArray, List.getElem_cons_succ, List.getElem_cons_zero, Act.put, List.setIfInBounds_toArray, List.set_cons_zero, List.set_cons_succ]
        refine wpAnyH_take (i := 33) (v := undef) rfl (by kernel_rfl) (by kernel_rfl) (by kernel_rfl) (fun _ _ _ h => h) (Or.inr ⟨by rfl, rfl⟩) (by assumption) ?_
        simp only [List.getElem_toArray, List.getElem_cons_succ, List.getElem_cons_zero, Act.put, List.setIfInBounds_toArray, List.set_cons_zero, List.set_cons_succ]
        refine wpAnyH_take (i := 34) (v := undef) rfl (by kernel_rfl) (by kernel_rfl) (by kernel_rfl) (fun _ _ _ h => h) (Or.inr ⟨by rfl, rfl⟩) (by assumption) ?_
        simp only [List.getElem_toArray, List.getElem_cons_succ, List.getElem_cons_zero, Act.put, List.setIfInBounds_toArray, List.set_cons_zero, List.set_cons_succ]
        refine wpAnyH_take (i := 35) (v := ?v404) rfl (by kernel_rfl) (by kernel_rfl) (by kernel_rfl) (fun _ _ _ h => h) (Or.inl ⟨by rfl, ?y404⟩) (by assumption) ?r404
        case y404 => (intro w hSw; (try dsimp only at hSw); go_simp; try (with_reducible rfl))
        simp only [List.getElem_toArray, List.getElem_cons_succ, List.getElem_cons_zero, Act.put, List.setIfInBounds_toArray, List.set_cons_zero, List.set_cons_succ]
        refine wpAnyH_take (i := 36) (v := ?v405) rfl (by kernel_rfl) (by kernel_rfl) (by kernel_rfl) (fun _ _ _ h => h) (Or.inl ⟨by rfl, ?y405⟩) (by assumption) ?r405
        case y405 => (intro w hSw; (try dsimp only at hSw); go_simp; try (with_reducible rfl))
        simp only [List.getElem_toArray, List.getElem_cons_succ, List.getElem_cons_zero, Act.put, List.setIfInBounds_toArray, List.set_cons_zero, List.set_cons_succ]
        refine wpAnyH_done (by kernel_rfl) ?_ _
        have B1 := hide (BX.out.trans (((Below.refl _ _).drew.trans (hb1.mono (Nat.le_refl _))).mono BX.out.size))
        clear hHeld hb1
        go_wp2
        go_ret
        exact ⟨by rw [E.out]; rfl, B1.out⟩
  · have E : Hid (bb = false) := bool_no10 HBB.out (fun h => hw ⟨h.w0, by have h1 := h.w1; rw [HZ.out.t] at h1; exact h1⟩)
    have C1 := hide (fun wx (hb : Below W0.heap.size W0 wx) => l10Who_any aT nT cT aH nH cH aL nL cL aG nG cG aN nN cN m wx who bT false (by simp only [Bool.false_eq_true, false_iff]; exact hw))
    clear hw
    go_enter Try.func44, Try.ntmps44
    go_upto_region 1 with fail
    rw [HW.out]
    refine wp_region_held_drew (S := (fun wx => wx.cell? ⟨w.heap.size, 0, none⟩ = some (.slice aT nT cT) ∧ wx.cell? ⟨w.heap.size, 1, none⟩ = some (.slice aH nH cH) ∧ wx.cell? ⟨w.heap.size, 2, none⟩ = some (.slice aL nL cL) ∧ wx.cell? ⟨w.heap.size, 3, none⟩ = some (.slice aG nG cG) ∧ wx.cell? ⟨w.heap.size, 4, none⟩ = some (.slice aN nN cN) ∧ wx.cell? ⟨w.heap.size + 1, 0, none⟩ = some (.int .i64 who) ∧ wx.cell? ⟨w.heap.size + 1, 1, none⟩ = some (.int .i64 no) ∧ wx.cell? ⟨w.heap.size + 1, 2, none⟩ = some (.string t))) (by kernel_rfl) ⟨k0, k1, k2, k3, k4, j0, j1, j2⟩ (fun hHeld => ?_)
    refine wpAnyH_take (i := 0) (v := ?v478) rfl (by kernel_rfl) (by kernel_rfl) (by kernel_rfl) (fun _ _ _ h => h) (Or.inl ⟨by rfl, ?y478⟩) (by assumption) ?r478
    case y478 => (intro w hSw; (try dsimp only at hSw); go_simp; try (with_reducible rfl))
    simp only [List.getElem_toArray, List.getElem_cons_zero, Act.put, List.setIfInBounds_toArray, List.set_cons_zero, List.set_cons_succ]
    refine wpAnyH_take (i := 1) (v := ?v479) rfl (by kernel_rfl) (by kernel_rfl) (by kernel_rfl) (fun _ _ _ h => h) (Or.inl ⟨by rfl, ?y479⟩) (by assumption) ?r479
    case y479 => (intro w hSw; (try dsimp only at hSw); go_simp; try (with_reducible rfl))
    simp only [List.getElem_toArray, List.getElem_cons_succ, List.getElem_cons_zero, Act.put, List.setIfInBounds_toArray, List.set_cons_zero, List.set_cons_succ]
    refine wpAnyH_take (i := 2) (v := ?v480) rfl (by kernel_rfl) (by kernel_rfl) (by kernel_rfl) (fun _ _ _ h => h) (Or.inl ⟨by rfl, ?y480⟩) (by assumption) ?r480
    case y480 => (intro w hSw; (try dsimp only at hSw); go_simp; try (with_reducible rfl))
    simp only [List.getElem_toArray, List.getElem_cons_succ, List.getElem_cons_zero, Act.put, List.setIfInBounds_toArray, List.set_cons_zero, List.set_cons_succ]
    refine wpAnyH_ready (rs := [3]) (by kernel_rfl) (by simp) ?_
    refine AllReadyH.cons rfl (fun K hK => ?_) AllReadyH.nil
    simp only [List.getElem_toArray, List.getElem_cons_succ, List.getElem_cons_zero]
    go_simp
    go_at_call 43
    refine (C1.out _ ((Below.refl _ _).drew)).mono ?_
    rintro e w1 ⟨rfl, hb1⟩
    dsimp only
    refine hK.out _ _ ?_ (fun hHeld => ?_)
    · exact keepV8 hHeld hb1
    clear hK K
    try simp only [Act.put, List.setIfInBounds_toArray, List.set_cons_zero, List.set_cons_succ]
    refine wpAnyH_take (i := 4) (v := ?v481) rfl (by kernel_rfl) (by kernel_rfl) (by kernel_rfl) (fun _ _ _ h => h) (Or.inl ⟨by rfl, ?y481⟩) (by assumption) ?r481
    case y481 => (intro w hSw; (try dsimp only at hSw); go_simp; try (with_reducible rfl))
    simp only [List.getElem_toArray, List.getElem_cons_succ, List.getElem_cons_zero, Act.put, List.setIfInBounds_toArray, List.set_cons_zero, List.set_cons_succ]
    refine wpAnyH_take (i := 5) (v := undef) rfl (by kernel_rfl) (by kernel_rfl) (by kernel_rfl) (fun _ _ _ h => h) (Or.inr ⟨by rfl, rfl⟩) (by assumption) ?_
    simp only [List.getElem_toArray, List.getElem_cons_succ, List.getElem_cons_zero, Act.put, List.setIfInBounds_toArray, List.set_cons_zero, List.set_cons_succ]
    refine wpAnyH_take (i := 6) (v := undef) rfl (by kernel_rfl) (by kernel_rfl) (by kernel_rfl) (fun _ _ _ h => h) (Or.inr ⟨by rfl, rfl⟩) (by assumption) ?_
    simp only [List.getElem_toArray, List.getElem_cons_succ, List.getElem_cons_zero, Act.put, List.setIfInBounds_toArray, List.set_cons_zero, List.set_cons_succ]
    refine wpAnyH_take (i := 7) (v := undef) rfl (by kernel_rfl) (by kernel_rfl) (by kernel_rfl) (fun _ _ _ h => h) (Or.inr ⟨by rfl, rfl⟩) (by assumption) ?_
    simp only [List.getElem_toArray, List.getElem_cons_succ, List.getElem_cons_zero, Act.put, List.setIfInBounds_toArray, List.set_cons_zero, List.set_cons_succ]
    refine wpAnyH_take (i := 8) (v := ?v485) rfl (by kernel_rfl) (by kernel_rfl) (by kernel_rfl) (fun _ _ _ h => h) (Or.inl ⟨by rfl, ?y485⟩) (by assumption) ?r485
    case y485 => (intro w hSw; (try dsimp only at hSw); go_simp; try (with_reducible rfl))
    simp only [List.getElem_toArray, List.getElem_cons_succ, List.getElem_cons_zero, Act.put, List.setIfInBounds_toArray, List.set_cons_zero, List.set_cons_succ]
    refine wpAnyH_take (i := 9) (v := ?v486) rfl (by kernel_rfl) (by kernel_rfl) (by kernel_rfl) (fun _ _ _ h => h) (Or.inl ⟨by rfl, ?y486⟩) (by assumption) ?r486
    case y486 => (intro w hSw; (try dsimp only at hSw); go_simp; try (with_reducible rfl))
    simp only [List.getElem_toArray, List.getElem_cons_succ, List.getElem_cons_zero, Act.put, List.setIfInBounds_toArray, List.set_cons_zero, List.set_cons_succ]
    refine wpAnyH_take (i := 10) (v := undef) rfl (by kernel_rfl) (by kernel_rfl) (by kernel_rfl) (fun _ _ _ h => h) (Or.inr ⟨by rfl, rfl⟩) (by assumption) ?_
    simp only [List.getElem_toArray, List.getElem_cons_succ, List.getElem_cons_zero, Act.put, List.setIfInBounds_toArray, List.set_cons_zero, List.set_cons_succ]
    refine wpAnyH_take (i := 11) (v := undef) rfl (by kernel_rfl) (by kernel_rfl) (by kernel_rfl) (fun _ _ _ h => h) (Or.inr ⟨by rfl, rfl⟩) (by assumption) ?_
    simp only [List.getElem_toArray, List.getElem_cons_succ, List.getElem_cons_zero, Act.put, List.setIfInBounds_toArray, List.set_cons_zero, List.set_cons_succ]
    refine wpAnyH_take (i := 12) (v := undef) rfl (by kernel_rfl) (by kernel_rfl) (by kernel_rfl) (fun _ _ _ h => h) (Or.inr ⟨by rfl, rfl⟩) (by assumption) ?_
    simp only [List.getElem_toArray, List.getElem_cons_succ, List.getElem_cons_zero, Act.put, List.setIfInBounds_toArray, List.set_cons_zero, List.set_cons_succ]
    refine wpAnyH_take (i := 13) (v := undef) rfl (by kernel_rfl) (by kernel_rfl) (by kernel_rfl) (fun _ _ _ h => h) (Or.inr ⟨by rfl, rfl⟩) (by assumption) ?_
    simp only [List.getElem_toArray, List.getElem_cons_succ, List.getElem_cons_zero, Act.put, List.setIfInBounds_toArray, List.set_cons_zero, List.set_cons_succ]
    refine wpAnyH_take (i := 14) (v := undef) rfl (by kernel_rfl) (by kernel_rfl) (by kernel_rfl) (fun _ _ _ h => h) (Or.inr ⟨by rfl, rfl⟩) (by assumption) ?_
    simp only [List.getElem_toArray, List.getElem_cons_succ, List.getElem_cons_zero, Act.put, List.setIfInBounds_toArray, List.set_cons_zero, List.set_cons_succ]
    refine wpAnyH_take (i := 15) (v := undef) rfl (by kernel_rfl) (by kernel_rfl) (by kernel_rfl) (fun _ _ _ h => h) (Or.inr ⟨by rfl, rfl⟩) (by assumption) ?_
    simp only [List.getElem_toArray, List.getElem_cons_succ, List.getElem_cons_zero, Act.put, List.setIfInBounds_toArray, List.set_cons_zero, List.set_cons_succ]
    refine wpAnyH_take (i := 16) (v := undef) rfl (by kernel_rfl) (by kernel_rfl) (by kernel_rfl) (fun _ _ _ h => h) (Or.inr ⟨by rfl, rfl⟩) (by assumption) ?_
    simp only [List.getElem_toArray, List.getElem_cons_succ, List.getElem_cons_zero, Act.put, List.setIfInBounds_toArray, List.set_cons_zero, List.set_cons_succ]
    refine wpAnyH_take (i := 17) (v := undef) rfl (by kernel_rfl) (by kernel_rfl) (by kernel_rfl) (fun _ _ _ h => h) (Or.inr ⟨by rfl, rfl⟩) (by assumption) ?_
    simp only [List.getElem_toArray, List.getElem_cons_succ, List.getElem_cons_zero, Act.put, List.setIfInBounds_toArray, List.set_cons_zero, List.set_cons_succ]
    refine wpAnyH_take (i := 18) (v := undef) rfl (by kernel_rfl) (by kernel_rfl) (by kernel_rfl) (fun _ _ _ h => h) (Or.inr ⟨by rfl, rfl⟩) (by assumption) ?_
    simp only [List.getElem_toArray, List.getElem_cons_succ, List.getElem_cons_zero, Act.put, List.setIfInBounds_toArray, List.set_cons_zero, List.set_cons_succ]
    refine wpAnyH_take (i := 19) (v := undef) rfl (by kernel_rfl) (by kernel_rfl) (by kernel_rfl) (fun _ _ _ h => h) (Or.inr ⟨by rfl, rfl⟩) (by assumption) ?_
    simp only [List.getElem_toArray, List.getElem_cons_succ, List.getElem_cons_zero, Act.put, List.setIfInBounds_toArray, List.set_cons_zero, List.set_cons_succ]
    refine wpAnyH_take (i := 20) (v := ?v497) rfl (by kernel_rfl) (by kernel_rfl) (by kernel_rfl) (fun _ _ _ h => h) (Or.inl ⟨by rfl, ?y497⟩) (by assumption) ?r497
    case y497 => (intro w hSw; (try dsimp only at hSw); go_simp; try (with_reducible rfl))
    simp only [List.getElem_toArray, List.getElem_cons_succ, List.getElem_cons_zero, Act.put, List.setIfInBounds_toArray, List.set_cons_zero, List.set_cons_succ]
    refine wpAnyH_take (i := 21) (v := ?v498) rfl (by kernel_rfl) (by kernel_rfl) (by kernel_rfl) (fun _ _ _ h => h) (Or.inl ⟨by rfl, ?y498⟩) (by assumption) ?r498
    case y498 => (intro w hSw; (try dsimp only at hSw); go_simp; try (with_reducible rfl))
    simp only [List.getElem_toArray, List.getElem_cons_succ, List.getElem_cons_zero, Act.put, List.setIfInBounds_toArray, List.set_cons_zero, List.set_cons_succ]
    refine wpAnyH_take (i := 22) (v := undef) rfl (by kernel_rfl) (by kernel_rfl) (by kernel_rfl) (fun _ _ _ h => h) (Or.inr ⟨by rfl, rfl⟩) (by assumption) ?_
    simp only [List.getElem_toArray, List.getElem_cons_succ, List.getElem_cons_zero, Act.put, List.setIfInBounds_toArray, List.set_cons_zero, List.set_cons_succ]
    refine wpAnyH_take (i := 23) (v := undef) rfl (by kernel_rfl) (by kernel_rfl) (by kernel_rfl) (fun _ _ _ h => h) (Or.inr ⟨by rfl, rfl⟩) (by assumption) ?_
    simp only [List.getElem_toArray, List.getElem_cons_succ, List.getElem_cons_zero, Act.put, List.setIfInBounds_toArray, List.set_cons_zero, List.set_cons_succ]
    refine wpAnyH_take (i := 24) (v := undef) rfl (by kernel_rfl) (by kernel_rfl) (by kernel_rfl) (fun _ _ _ h => h) (Or.inr ⟨by rfl, rfl⟩) (by assumption) ?_
    simp only [List.getElem_toArray, List.getElem_cons_succ, List.getElem_cons_zero, Act.put, List.setIfInBounds_toArray, List.set_cons_zero, List.set_cons_succ]
    refine wpAnyH_take (i := 25) (v := undef) rfl (by kernel_rfl) (by kernel_rfl) (by kernel_rfl) (fun _ _ _ h => h) (Or.inr ⟨by rfl, rfl⟩) (by assumption) ?_
    simp only [List.getElem_toArray, List.getElem_cons_succ, List.getElem_cons_zero, Act.put, List.setIfInBounds_toArray, List.set_cons_zero, List.set_cons_succ]
    refine wpAnyH_take (i := 26) (v := undef) rfl (by kernel_rfl) (by kernel_rfl) (by kernel_rfl) (fun _ _ _ h => h) (Or.inr ⟨by rfl, rfl⟩) (by assumption) ?_
    simp only [List.getElem_toArray, List.getElem_cons_succ, List.getElem_cons_zero, Act.put, List.setIfInBounds_toArray, List.set_cons_zero, List.set_cons_succ]
    refine wpAnyH_take (i := 27) (v := undef) rfl (by kernel_rfl) (by kernel_rfl) (by kernel_rfl) (fun _ _ _ h => h) (Or.inr ⟨by rfl, rfl⟩) (by assumption) ?_
    simp only [List.getElem_toArray, List.getElem_cons_succ, List.getElem_cons_zero, Act.put, List.setIfInBounds_toArray, List.set_cons_zero, List.set_cons_succ]
    refine wpAnyH_take (i := 28) (v := undef) rfl (by kernel_rfl) (by kernel_rfl) (by kernel_rfl) (fun _ _ _ h => h) (Or.inr ⟨by rfl, rfl⟩) (by assumption) ?_
    simp only [List.getElem_toArray, List.getElem_cons_succ, List.getElem_cons_zero, Act.put, List.setIfInBounds_toArray, List.set_cons_zero, List.set_cons_succ]
    refine wpAnyH_take (i := 29) (v := undef) rfl (by kernel_rfl) (by kernel_rfl) (by kernel_rfl) (fun _ _ _ h => h) (Or.inr ⟨by rfl, rfl⟩) (by assumption) ?_
    simp only [List.getElem_toArray, List.getElem_cons_succ, List.getElem_cons_zero, Act.put, List.setIfInBounds_toArray, List.set_cons_zero, List.set_cons_succ]
    refine wpAnyH_take (i := 30) (v := undef) rfl (by kernel_rfl) (by kernel_rfl) (by kernel_rfl) (fun _ _ _ h => h) (Or.inr ⟨by rfl, rfl⟩) (by assumption) ?_
    simp only [List.getElem_toArray, List.getElem_cons_succ, List.getElem_cons_zero, Act.put, List.setIfInBounds_toArray, List.set_cons_zero, List.set_cons_succ]
    refine wpAnyH_take (i := 31) (v := undef) rfl (by kernel_rfl) (by kernel_rfl) (by kernel_rfl) (fun _ _ _ h => h) (Or.inr ⟨by rfl, rfl⟩) (by assumption) ?_
    simp only [List.getElem_toArray, List.getElem_cons_succ, List.getElem_cons_zero, Act.put, List.setIfInBounds_toArray, List.set_cons_zero, List.set_cons_succ]
    refine wpAnyH_take (i := 32) (v := undef) rfl (by kernel_rfl) (by kernel_rfl) (by kernel_rfl) (fun _ _ _ h => h) (Or.inr ⟨by rfl, rfl⟩) (by assumption) ?_
    simp only [List.getElem_toArray, List.getElem_cons_succ, List.getElem_cons_zero, Act.put, List.setIfInBounds_toArray, List.set_cons_zero, List.set_cons_succ]
    refine wpAnyH_take (i := 33) (v := undef) rfl (by kernel_rfl) (by kernel_rfl) (by kernel_rfl) (fun _ _ _ h => h) (Or.inr ⟨by rfl, rfl⟩) (by assumption) ?_
    simp only [List.getElem_toArray, List.getElem_cons_succ, List.getElem_cons_zero, Act.put, List.setIfInBounds_toArray, List.set_cons_zero, List.set_cons_succ]
    refine wpAnyH_take (i := 34) (v := undef) rfl (by kernel_rfl) (by kernel_rfl) (by kernel_rfl) (fun _ _ _ h => h) (Or.inr ⟨by rfl, rfl⟩) (by assumption) ?_
    simp only [List.getElem_toArray, List.getElem_cons_succ, List.getElem_cons_zero, Act.put, List.setIfInBounds_toArray, List.set_cons_zero, List.set_cons_succ]
    refine wpAnyH_take (i := 35) (v := ?v512) rfl (by kernel_rfl) (by kernel_rfl) (by kernel_rfl) (fun _ _ _ h => h) (Or.inl ⟨by rfl, ?y512⟩) (by assumption) ?r512
    case y512 => (intro w hSw; (try dsimp only at hSw); go_simp; try (with_reducible rfl))
    simp only [List.getElem_toArray, List.getElem_cons_succ, List.getElem_cons_zero, Act.put, List.setIfInBounds_toArray, List.set_cons_zero, List.set_cons_succ]
    refine wpAnyH_take (i := 36) (v := ?v513) rfl (by kernel_rfl) (by kernel_rfl) (by kernel_rfl) (fun _ _ _ h => h) (Or.inl ⟨by rfl, ?y513⟩) (by assumption) ?r513
    case y513 => (intro w hSw; (try dsimp only at hSw); go_simp; try (with_reducible rfl))
    simp only [List.getElem_toArray, List.getElem_cons_succ, List.getElem_cons_zero, Act.put, List.setIfInBounds_toArray, List.set_cons_zero, List.set_cons_succ]
    refine wpAnyH_done (by kernel_rfl) ?_ _
    have B1 := hide (BX.out.trans (((Below.refl _ _).drew.trans (hb1.mono (Nat.le_refl _))).mono BX.out.size))
    clear hHeld hb1
    go_wp2
    go_ret
    exact ⟨by rw [E.out]; rfl, B1.out⟩
end Go.Proofs.Ythmekhhfihjclag.L10

namespace Go.Proofs.Ythmekhhfihjclag.Own
open Go.RowKit L1
set_option linter.unusedVariables false

theorem bool_noT {b : Bool} {p : Prop} (h : b = true ↔ p) (hp : ¬ p) : b = false := by
  cases b with
  | false => rfl
  | true => exact absurd (h.1 rfl) hp
set_option maxRecDepth 100000 in
set_option maxHeartbeats 400000 in
theorem l1In_any (x lo hi : Int) (w : World) (b : Bool) (hb : b = true ↔ lo ≤ x ∧ x ≤ hi) :
    Calls Try.prog 42 #[.int .i64 x, .int .i64 lo, .int .i64 hi] w fun e w' => e = .returned (.bool b) ∧ w = w' := by
  by_cases h1 : lo ≤ x
  · by_cases h2 : x ≤ hi
    · obtain rfl : b = true := hb.2 ⟨h1, h2⟩
      clear hb
      go_enter Try.func42, Try.ntmps42
      go_wp2
      go_ret
      exact ⟨rfl, rfl⟩
    · obtain rfl : b = false := bool_noT hb (fun h => h2 h.2)
      clear hb
      go_enter Try.func42, Try.ntmps42
      go_wp2
      go_ret
      exact ⟨rfl, rfl⟩
  · obtain rfl : b = false := bool_noT hb (fun h => h1 h.1)
    clear hb
    go_enter Try.func42, Try.ntmps42
    go_wp2
    go_ret
    exact ⟨rfl, rfl⟩

end Go.Proofs.Ythmekhhfihjclag.Own

namespace Go.Proofs.Ythmekhhfihjclag.Own
open Go.RowKit L1
set_option linter.unusedVariables false

theorem below_drewM {N : Nat} {w w' : World} (h : Below N w w') : ∀ q, Below N w (w'.drewN q)
  | 0 => h
  | q + 1 => (below_drewM h q).drew
set_option maxRecDepth 100000 in
set_option maxHeartbeats 1000000 in
theorem l1Same_any (a b : Option Addr) (xs ys : List Int) (n m c1 c2 : Nat) (w : World) (hn : xs.length = n) (hm : ys.length = m) (ha : Sl w a xs) (hb : Sl w b ys) (hn2 : n ≤ 9223372036854775807) (hm2 : m ≤ 9223372036854775807) (bb : Bool) (hbb : bb = true ↔ xs = ys) :
    Calls Try.prog 45 #[.slice a n c1, .slice b m c2] w fun e w' => e = .returned (.bool bb) ∧ Below w.heap.size w w' := by
  have HA := hide ha
  have HB := hide hb
  have HN := hide hn
  have HM := hide hm
  have HBB := hide hbb
  clear ha hb hn hm hbb
  by_cases hnm : n = m
  · subst hnm
    go_enter Try.func45, Try.ntmps45
    go_wp2
    go_loopw [13] (fun i wr => ∃ k : Nat, k ≤ n ∧ i = .int .i64 k ∧ Hid (∀ j, j < k → xs.getD j 0 = ys.getD j 0) ∧ Below w.heap.size w wr) (fun i _ => n - (intOf i).toNat)
    case atStart => exact ⟨0, Nat.zero_le _, rfl, fun j hj => absurd hj (Nat.not_lt_zero _), Below.refl _ _⟩
    case round =>
      obtain ⟨k, hk, rfl, HK, hbel⟩ := hrel
      by_cases hlt : k < n
      · obtain ⟨b1, o1, rfl, h1⟩ := HA.out k (by rw [HN.out]; exact hlt)
        obtain ⟨b2, o2, rfl, h2⟩ := HB.out k (by rw [HM.out]; exact hlt)
        have g1 := (hbel.cell (p := ⟨b1, o1 + k, none⟩) (blk_lt h1)).trans h1
        have g2 := (hbel.cell (p := ⟨b2, o2 + k, none⟩) (blk_lt h2)).trans h2
        obtain ⟨x, hx⟩ : ∃ x, x = xs.getD k 0 := ⟨_, rfl⟩
        obtain ⟨y, hy⟩ : ∃ y, y = ys.getD k 0 := ⟨_, rfl⟩
        rw [← hx] at g1
        rw [← hy] at g2
        have hltI : (k : Int) < (n : Int) := by omega
        clear h1 h2
        by_cases hxy : x = y
        · have HK2 : Hid (∀ j, j < k + 1 → xs.getD j 0 = ys.getD j 0) := fun j hj => by
            by_cases e : j = k
            · subst e; rw [← hx, ← hy, hxy]
            · exact HK.out j (by omega)
          clear hx hy
          subst hxy
          go_wp2
          go_quiet (fail)
          go_wp2
          go_roundw
          case rel => exact ⟨k + 1, by omega, by go_num, HK2.out, below_drewM hbel _⟩
          case measure => simp [intOf]; omega
        · have hE : bb = false := by
            cases bb with
            | false => rfl
            | true =>
              have := HBB.out.1 rfl
              exact absurd (by rw [hx, hy, this]) hxy
          subst hE
          clear hx hy
          go_wp2
          go_quiet (fail)
          go_wp2
          go_ret
          exact ⟨rfl, below_drewM hbel _⟩
      · obtain rfl : k = n := by omega
        have hltI : ¬ (k : Int) < (k : Int) := by omega
        have hE : bb = true := HBB.out.2 (list_same HM.out HN.out (fun j hj => HK.out j hj))
        subst hE
        go_wp2
        go_ret
        exact ⟨rfl, hbel⟩
  · have hE : bb = false := by
      cases bb with
      | false => rfl
      | true =>
        have := HBB.out.1 rfl
        have h1 := HN.out
        rw [this, HM.out] at h1
        exact absurd h1.symm hnm
    subst hE
    have hI : ¬ (n : Int) = (m : Int) := by omega
    go_enter Try.func45, Try.ntmps45
    go_wp2
    go_ret
    exact ⟨rfl, Below.refl _ _⟩

end Go.Proofs.Ythmekhhfihjclag.Own
