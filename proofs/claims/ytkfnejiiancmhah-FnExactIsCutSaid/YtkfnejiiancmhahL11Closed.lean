/-
  Contracts: impl.countEvents, isClosed, IsCut.
-/
import Derived.Test.YtkfnejiiancmhahL11CutM
import Derived.Test.YtkfnejiiancmhahL11Clocks
import Derived.Test.YtkfnejiiancmhahL11Less
import Derived.Test.YtkfnejiiancmhahL11Reads
namespace Go.Proofs.Ytkfnejiiancmhah.L11
open Go.RowKit L1 Own
set_option linter.unusedVariables false

/-- How many of the first events each node has. -/
def cntE (l : List Ev) (k : Nat) : Nat → Int := fun i => cnt l (i : Int) k
theorem cntE_succ (l : List Ev) (k x : Nat) (hx : nd l k = (x : Int)) (i : Nat) : updI (cntE l k) x (cntE l k x + 1) i = cntE l (k + 1) i := by
  unfold updI cntE
  show _ = cnt l (i : Int) k + _
  by_cases e : i = x
  · subst e; rw [if_pos rfl, if_pos hx]
  · rw [if_neg e, if_neg (by omega)]; omega
set_option maxRecDepth 100000 in
set_option maxHeartbeats 4000000 in
theorem countEvents_any (N : Int) (a : Option Addr) (l : List (Int × Int)) (n cap : Nat) (w : World) (hn : l.length = n) (hs : Sl2 w a l) (hg : GoodV N l) :
    Calls Try.prog 51 #[.slice a n cap] w fun e w' => e = .returned (cv (cntE l n)) ∧ Below w.heap.size w w' := by
  have h40 : n ≤ 40 := by have := hg.2.2.1; omega
  have HG := hide hg
  have HS := hide hs
  have HN := hide hn
  clear hg hs hn
  go_enter Try.func51, Try.ntmps51
  go_upto_region 2 with fail
  obtain ⟨W, hW⟩ : ∃ W, (w.alloc (.cells #[.int .i64 0, .int .i64 0, .int .i64 0, .int .i64 0, .int .i64 0] 59)).alloc (.cells #[.int .i64 0, .int .i64 0, .int .i64 0, .int .i64 0, .int .i64 0] 59) = W := ⟨_, rfl⟩
  have H0 : Hid (K2 w W (fun _ => 0) (cntE l 0)) := by
    rw [← hW]
    exact hide ⟨(clk_zero w _ _ rfl (Nat.le_refl _)).alloc _, clk_zero _ _ _ (by simp) (by omega), ((Below.refl _ _).alloc (Nat.le_refl _) _).alloc (by simp) _⟩
  rw [hW]
  clear hW
  go_wp2
  go_loopw [8] (fun i wr => ∃ k : Nat, k ≤ n ∧ i = .int .i64 k ∧ Hid (K2 w wr (fun _ => 0) (cntE l k))) (fun i _ => n - (intOf i).toNat)
  case atStart => exact ⟨0, Nat.zero_le _, rfl, H0⟩
  case round =>
    obtain ⟨k, hk, rfl, HK⟩ := hrel
    by_cases hlt : k < n
    · have hv := HG.out.2.2.2 k (by rw [HN.out]; exact hlt)
      have hN5 := HG.out.2.1
      obtain ⟨xn, hx⟩ : ∃ xn : Nat, nd l k = (xn : Int) := ⟨(nd l k).toNat, by have := hv.1; omega⟩
      have hx5 : xn < 5 := by have := hv.2.1; omega
      have hsl := HS.out.below HK.out.bel
      obtain ⟨b, off, rfl, q1, q2⟩ := hsl k (by rw [HN.out]; exact hlt)
      clear q1 q2
      obtain ⟨hc, hd⟩ := hsl.two k (by rw [HN.out]; exact hlt)
      rw [hx] at hc
      obtain ⟨y, hy⟩ : ∃ y, y = fr l k := ⟨_, rfl⟩
      rw [← hy] at hd
      have hltI : (k : Int) < (n : Int) := by omega
      have hxI : (xn : Int) < 5 := by omega
      have hx0 : (0 : Int) ≤ (xn : Int) := by omega
      have HX := hide hx
      clear hx hv hsl hy
      go_upto_region 5 with fail
      obtain ⟨W0, hW0⟩ : ∃ W0, wr.alloc (.cells #[.int .i64 xn, .int .i64 y] 48) = W0 := ⟨_, rfl⟩
      have hbw : Below wr.heap.size wr W0 := by rw [← hW0]; exact (Below.refl _ _).alloc (Nat.le_refl _) _
      have e0 : W0.cell? ⟨wr.heap.size, 0, none⟩ = some (.int .i64 xn) := by rw [← hW0]; simp
      have HK0 : Hid (K2 w W0 (fun _ => 0) (cntE l k)) := hide ⟨HK.out.a.below hbw, HK.out.b.below hbw, HK.out.bel.trans (hbw.mono HK.out.bel.size)⟩
      rw [hW0]
      clear hW0 hbw HK
      have hcx := HK0.out.b.cell xn hx5
      have hcf := HK0.out.b.frozenAt xn
      have hb0 := cnt_nn l (xn : Int) k
      have hb1 := cnt_le l (xn : Int) k
      have hsu := cntE_succ l k xn HX.out
      obtain ⟨m, hm⟩ : ∃ m, m = cntE l k xn := ⟨_, rfl⟩
      rw [← hm] at hcx hsu
      have hm0 : 0 ≤ m := by rw [hm]; exact hb0
      have hm1 : m ≤ 40 := by rw [hm]; unfold cntE; omega
      have HN2 : Hid (K2 w (W0.setCell ⟨w.heap.size + 1, xn, none⟩ (.int .i64 (m + 1))) (fun _ => 0) (cntE l (k + 1))) := hide
        ⟨HK0.out.a.keep xn _ (by omega), (HK0.out.b.set xn (m + 1)).congr (fun i _ => hsu i), HK0.out.bel.setCell (p := ⟨w.heap.size + 1, xn, none⟩) (by simp only; omega) _⟩
      clear hm hsu hb0 hb1 HK0
      go_wp2
      go_roundw
      case rel => exact ⟨k + 1, by omega, by go_num, HN2⟩
      case measure => simp [intOf]; omega
    · obtain rfl : k = n := by omega
      have hltI : ¬ (k : Int) < (k : Int) := by omega
      have e0 := HK.out.b.cell 0 (by omega)
      have r0 := HK.out.a.cell 0 (by omega)
      have f0 := HK.out.a.frozenAt 0
      have e1 := HK.out.b.cell 1 (by omega)
      have r1 := HK.out.a.cell 1 (by omega)
      have f1 := HK.out.a.frozenAt 1
      have e2 := HK.out.b.cell 2 (by omega)
      have r2 := HK.out.a.cell 2 (by omega)
      have f2 := HK.out.a.frozenAt 2
      have e3 := HK.out.b.cell 3 (by omega)
      have r3 := HK.out.a.cell 3 (by omega)
      have f3 := HK.out.a.frozenAt 3
      have e4 := HK.out.b.cell 4 (by omega)
      have r4 := HK.out.a.cell 4 (by omega)
      have f4 := HK.out.a.frozenAt 4
      go_wp2
      refine bodyPost_ret (v := cv (cntE l k)) (by simp [results, Try.f51, go_sem, *]) rfl ⟨rfl, ?_⟩
      exact (((((HK.out.bel.setCell (p := ⟨w.heap.size, 0, none⟩) (by simp only; omega) _).setCell (p := ⟨w.heap.size, 1, none⟩) (by simp only; omega) _).setCell (p := ⟨w.heap.size, 2, none⟩) (by simp only; omega) _).setCell (p := ⟨w.heap.size, 3, none⟩) (by simp only; omega) _).setCell (p := ⟨w.heap.size, 4, none⟩) (by simp only; omega) _)
set_option maxRecDepth 100000 in
set_option maxHeartbeats 4000000 in
theorem isClosed_any (N : Int) (a : Option Addr) (l : List (Int × Int)) (n cap : Nat) (U : Nat → Int) (w : World) (hn : l.length = n) (hs : Sl2 w a l) (hg : GoodV N l) (bb : Bool) (hbb : bb = true ↔ ∀ k, k < n → clk l k (nd l k) ≤ U (nd l k).toNat → ∀ i : Nat, i < 5 → cE l k i ≤ U i) :
    Calls Try.prog 52 #[.slice a n cap, cv U] w fun e w' => e = .returned (.bool bb) ∧ Below w.heap.size w w' := by
  have h40 : n ≤ 40 := by have := hg.2.2.1; omega
  have C := hide (fun w hs => clocksOf_any N a l n cap w hn hs hg)
  have HG := hide hg
  have HS := hide hs
  have HN := hide hn
  have HBB := hide hbb
  clear hg hs hn hbb
  go_enter Try.func52, Try.ntmps52
  go_upto_region 1 with fail
  obtain ⟨W, hW⟩ : ∃ W, w.alloc (.cells #[.int .i64 (U 0), .int .i64 (U 1), .int .i64 (U 2), .int .i64 (U 3), .int .i64 (U 4)] 59) = W := ⟨_, rfl⟩
  have hbW : Below w.heap.size w W := by rw [← hW]; exact (Below.refl _ _).alloc (Nat.le_refl _) _
  have HU : Hid (Clk W w.heap.size w.heap.size U) := by rw [← hW]; exact hide (clk_new w _ _ rfl (Nat.le_refl _) U)
  rw [hW]
  have HBW := hide hbW
  clear hW hbW
  go_wp2_with fail
  refine (C.out _ (HS.out.below HBW.out)).mono ?_
  rintro e w1 ⟨v, rfl, ho, hb1⟩
  have B1 := hide (HBW.out.trans (hb1.mono HBW.out.size))
  have HU1 := hide (HU.out.below hb1)
  obtain ⟨oa, ocap, rfl⟩ : ∃ oa ocap, v = .slice oa n ocap := by
    rcases ho.2 with ⟨hv, h0⟩ | ⟨q, cap, cur, hv, _⟩
    · subst h0; exact ⟨none, 0, hv⟩
    · exact ⟨_, cap, hv⟩
  have HO := hide ho
  clear ho hb1 C HBW HU
  go_wp2
  go_loopw [11] (fun i wr => ∃ k : Nat, k ≤ n ∧ i = .int .i64 k ∧ Hid (∀ j, j < k → clk l j (nd l j) ≤ U (nd l j).toNat → ∀ i : Nat, i < 5 → cE l j i ≤ U i) ∧ Below w1.heap.size w1 wr) (fun i _ => n - (intOf i).toNat)
  case atStart => exact ⟨0, Nat.zero_le _, rfl, fun j hj => absurd hj (Nat.not_lt_zero _), Below.refl _ _⟩
  case round =>
    obtain ⟨k, hk, rfl, HJ, hbel⟩ := hrel
    by_cases hlt : k < n
    · have hv := HG.out.2.2.2 k (by rw [HN.out]; exact hlt)
      have hN5 := HG.out.2.1
      obtain ⟨xn, hx⟩ : ∃ xn : Nat, nd l k = (xn : Int) := ⟨(nd l k).toNat, by have := hv.1; omega⟩
      have hx5 : xn < 5 := by have := hv.2.1; omega
      have hsl := HS.out.below (B1.out.trans (hbel.mono B1.out.size))
      obtain ⟨b, off, rfl, q1, q2⟩ := hsl k (by rw [HN.out]; exact hlt)
      clear q1 q2
      have HSL := hide hsl
      obtain ⟨oq, hoa⟩ : ∃ q, oa = some ⟨q, 0, none⟩ := by
        rcases HO.out.2 with ⟨hv, h0⟩ | ⟨q, cap, cur, hv, _⟩
        · omega
        · exact ⟨q, by simp at hv; exact hv.1⟩
      subst hoa
      have hO := own_belowT HO.out hbel
      have o0 := hO.cells (g := oq) rfl (k * 5 + 0) _ (flat5_get (cE l) n k 0 hlt (by omega))
      have o1 := hO.cells (g := oq) rfl (k * 5 + 1) _ (flat5_get (cE l) n k 1 hlt (by omega))
      have o2 := hO.cells (g := oq) rfl (k * 5 + 2) _ (flat5_get (cE l) n k 2 hlt (by omega))
      have o3 := hO.cells (g := oq) rfl (k * 5 + 3) _ (flat5_get (cE l) n k 3 hlt (by omega))
      have o4 := hO.cells (g := oq) rfl (k * 5 + 4) _ (flat5_get (cE l) n k 4 hlt (by omega))
      rw [addr_add] at o0 o1 o2 o3 o4
      simp only [Nat.add_zero] at o0 o1 o2 o3 o4
      have hltI : (k : Int) < (n : Int) := by omega
      have hk0 : (0 : Int) ≤ (k : Int) := by omega
      have hxI : (xn : Int) < 5 := by omega
      have hx0 : (0 : Int) ≤ (xn : Int) := by omega
      have hno : bb = true → clk l k (nd l k) ≤ U (nd l k).toNat → ∀ i : Nat, i < 5 → cE l k i ≤ U i := fun h => HBB.out.1 h k hlt
      obtain ⟨M, hM⟩ : ∃ M : Nat → Int, M = cE l k := ⟨_, rfl⟩
      have hcm : clk l k (nd l k) = M xn := by rw [hM, hx]; rfl
      have hxt : (nd l k).toNat = xn := by omega
      have hjj : (∀ j, j < k + 1 → clk l j (nd l j) ≤ U (nd l j).toNat → ∀ i : Nat, i < 5 → cE l j i ≤ U i) ↔ (M xn ≤ U xn → ∀ i : Nat, i < 5 → M i ≤ U i) := by
        constructor
        · intro h h1; have h2 := h k (by omega); rw [hcm, hxt] at h2; rw [hM]; exact h2 h1
        · intro h j hj
          by_cases e : j = k
          · subst e; rw [hcm, hxt, ← hM]; exact h
          · exact HJ.out j (by omega)
      rw [hcm, hxt, ← hM] at hno
      rw [← hM] at o0 o1 o2 o3 o4
      have HX := hide hx
      have HNO := hide hno
      have HJJ := hide hjj
      have HBL := hide hbel
      clear hx hv hsl hO hM hcm hxt hno hjj hbel
      go_upto_region 4 with fail
      obtain ⟨V, hV⟩ : ∃ V, wr.alloc (.cells #[.int .i64 (M 0), .int .i64 (M 1), .int .i64 (M 2), .int .i64 (M 3), .int .i64 (M 4)] 59) = V := ⟨_, rfl⟩
      have hbv : Below wr.heap.size wr V := by rw [← hV]; exact (Below.refl _ _).alloc (Nat.le_refl _) _
      have HC : Hid (Clk V w1.heap.size wr.heap.size M) := by rw [← hV]; exact hide (clk_new wr _ _ rfl HBL.out.size M)
      have HUV := hide ((HU1.out.below HBL.out).below hbv)
      have hcell : V.cell? ⟨b, off + k * 2, none⟩ = some (.int .i64 xn) := by
        have h1 := (HSL.out.two k (by rw [HN.out]; exact hlt)).1
        rw [HX.out] at h1
        exact (hbv.cell (p := ⟨b, off + k * 2, none⟩) (blk_lt h1)).trans h1
      have B2 := hide (HBL.out.trans (hbv.mono HBL.out.size))
      rw [hV]
      obtain ⟨cb, hcb⟩ : ∃ cb, cb = wr.heap.size := ⟨_, rfl⟩
      rw [← hcb] at HC ⊢
      clear hV hbv hcb o0 o1 o2 o3 o4 HSL
      have m0 := HC.out.cell 0 (by omega)
      have u0 := HUV.out.cell 0 (by omega)
      have m1 := HC.out.cell 1 (by omega)
      have u1 := HUV.out.cell 1 (by omega)
      have m2 := HC.out.cell 2 (by omega)
      have u2 := HUV.out.cell 2 (by omega)
      have m3 := HC.out.cell 3 (by omega)
      have u3 := HUV.out.cell 3 (by omega)
      have m4 := HC.out.cell 4 (by omega)
      have u4 := HUV.out.cell 4 (by omega)
      have mx := HC.out.cell xn hx5
      have ux := HUV.out.cell xn hx5
      obtain ⟨mc, hmc⟩ : ∃ mc, mc = M xn := ⟨_, rfl⟩
      obtain ⟨mu, hmu⟩ : ∃ mu, mu = U xn := ⟨_, rfl⟩
      rw [← hmc] at mx HNO HJJ
      rw [← hmu] at ux HNO HJJ
      have hend : ∀ w', Below V.heap.size V w' → Below w.heap.size w w' := fun w' h => B1.out.trans ((B2.out.trans (h.mono B2.out.size)).mono B1.out.size)
      have HEND := hide hend
      have hstay : ∀ w', Below V.heap.size V w' → Below w1.heap.size w1 w' := fun w' h => B2.out.trans (h.mono B2.out.size)
      have HST := hide hstay
      clear hmc hmu HC HUV hend hstay
      go_upto_region 5 with fail
      by_cases hle : mc ≤ mu
      · obtain ⟨am, ham⟩ : ∃ am : Bool, am = true ↔ ∀ i, i < 5 → M i ≤ U i := by
          by_cases h : ∀ i, i < 5 → M i ≤ U i
          · exact ⟨true, by simpa using h⟩
          · exact ⟨false, by simpa using h⟩
        have CA := hide (fun w => isAtMost_any M U w am ham)
        have HAM := hide ham
        clear ham
        cases am with
        | true =>
          have HJ2 := hide (HJJ.out.2 (fun _ => HAM.out.1 rfl))
          refine wp_region_held_drew (S := (fun wx => wx.cell? ⟨cb, 0, none⟩ = some (.int .i64 (M 0)) ∧ wx.cell? ⟨cb, 1, none⟩ = some (.int .i64 (M 1)) ∧ wx.cell? ⟨cb, 2, none⟩ = some (.int .i64 (M 2)) ∧ wx.cell? ⟨cb, 3, none⟩ = some (.int .i64 (M 3)) ∧ wx.cell? ⟨cb, 4, none⟩ = some (.int .i64 (M 4)) ∧ wx.cell? ⟨w.heap.size, 0, none⟩ = some (.int .i64 (U 0)) ∧ wx.cell? ⟨w.heap.size, 1, none⟩ = some (.int .i64 (U 1)) ∧ wx.cell? ⟨w.heap.size, 2, none⟩ = some (.int .i64 (U 2)) ∧ wx.cell? ⟨w.heap.size, 3, none⟩ = some (.int .i64 (U 3)) ∧ wx.cell? ⟨w.heap.size, 4, none⟩ = some (.int .i64 (U 4)) ∧ wx.cell? ⟨cb, xn, none⟩ = some (.int .i64 mc) ∧ wx.cell? ⟨w.heap.size, xn, none⟩ = some (.int .i64 mu) ∧ Below V.heap.size V wx)) (by kernel_rfl) ⟨m0, m1, m2, m3, m4, u0, u1, u2, u3, u4, mx, ux, (Below.refl _ _).drew⟩ (fun hHeld => ?_)
          refine wpAnyH_take (i := 0) (v := ?v1) rfl (by kernel_rfl) (by kernel_rfl) (by kernel_rfl) (fun _ _ _ h => h) (Or.inl ⟨by rfl, ?y1⟩) (by assumption) ?r1
          case y1 => (intro w hSw; (try dsimp only at hSw); go_simp; try (with_reducible rfl))
          simp only [List.getElem_toArray, List.getElem_cons_zero, Act.put, List.setIfInBounds_toArray, List.set_cons_zero, List.set_cons_succ]
          refine wpAnyH_take (i := 1) (v := ?v2) rfl (by kernel_rfl) (by kernel_rfl) (by kernel_rfl) (fun _ _ _ h => h) (Or.inl ⟨by rfl, ?y2⟩) (by assumption) ?r2
          case y2 => (intro w hSw; (try dsimp only at hSw); go_simp; try (with_reducible rfl))
          simp only [List.getElem_toArray, List.getElem_cons_succ, List.getElem_cons_zero, Act.put, List.setIfInBounds_toArray, List.set_cons_zero, List.set_cons_succ]
          refine wpAnyH_take (i := 2) (v := ?v3) rfl (by kernel_rfl) (by kernel_rfl) (by kernel_rfl) (fun _ _ _ h => h) (Or.inl ⟨by rfl, ?y3⟩) (by assumption) ?r3
          case y3 => (intro w hSw; (try dsimp only at hSw); go_simp; try (with_reducible rfl))
          simp only [List.getElem_toArray, List.getElem_cons_succ, List.getElem_cons_zero, Act.put, List.setIfInBounds_toArray, List.set_cons_zero, List.set_cons_succ]
          refine wpAnyH_take (i := 3) (v := ?v4) rfl (by kernel_rfl) (by kernel_rfl) (by kernel_rfl) (fun _ _ _ h => h) (Or.inl ⟨by rfl, ?y4⟩) (by assumption) ?r4
          case y4 => (intro w hSw; (try dsimp only at hSw); go_simp; try (with_reducible rfl))
          simp only [List.getElem_toArray, List.getElem_cons_succ, List.getElem_cons_zero, Act.put, List.setIfInBounds_toArray, List.set_cons_zero, List.set_cons_succ]
          refine wpAnyH_take (i := 4) (v := ?v5) rfl (by kernel_rfl) (by kernel_rfl) (by kernel_rfl) (fun _ _ _ h => h) (Or.inl ⟨by rfl, ?y5⟩) (by assumption) ?r5
          case y5 => (intro w hSw; (try dsimp only at hSw); go_simp; try (with_reducible rfl))
          simp only [List.getElem_toArray, List.getElem_cons_succ, List.getElem_cons_zero, Act.put, List.setIfInBounds_toArray, List.set_cons_zero, List.set_cons_succ]
          refine wpAnyH_take (i := 5) (v := ?v6) rfl (by kernel_rfl) (by kernel_rfl) (by kernel_rfl) (fun _ _ _ h => h) (Or.inl ⟨by rfl, ?y6⟩) (by assumption) ?r6
          case y6 => (intro w hSw; (try dsimp only at hSw); go_simp; try (with_reducible rfl))
          simp only [List.getElem_toArray, List.getElem_cons_succ, List.getElem_cons_zero, Act.put, List.setIfInBounds_toArray, List.set_cons_zero, List.set_cons_succ]
          refine wpAnyH_take (i := 6) (v := ?v7) rfl (by kernel_rfl) (by kernel_rfl) (by kernel_rfl) (fun _ _ _ h => h) (Or.inl ⟨by rfl, ?y7⟩) (by assumption) ?r7
          case y7 => (intro w hSw; (try dsimp only at hSw); go_simp; try (with_reducible rfl))
          simp only [List.getElem_toArray, List.getElem_cons_succ, List.getElem_cons_zero, Act.put, List.setIfInBounds_toArray, List.set_cons_zero, List.set_cons_succ]
          refine wpAnyH_take (i := 7) (v := ?v8) rfl (by kernel_rfl) (by kernel_rfl) (by kernel_rfl) (fun _ _ _ h => h) (Or.inl ⟨by rfl, ?y8⟩) (by assumption) ?r8
          case y8 => (intro w hSw; (try dsimp only at hSw); go_simp; try (with_reducible rfl))
          simp only [List.getElem_toArray, List.getElem_cons_succ, List.getElem_cons_zero, Act.put, List.setIfInBounds_toArray, List.set_cons_zero, List.set_cons_succ]
          refine wpAnyH_take (i := 8) (v := ?v9) rfl (by kernel_rfl) (by kernel_rfl) (by kernel_rfl) (fun _ _ _ h => h) (Or.inl ⟨by rfl, ?y9⟩) (by assumption) ?r9
          case y9 => (intro w hSw; (try dsimp only at hSw); go_simp; try (with_reducible rfl))
          simp only [List.getElem_toArray, List.getElem_cons_succ, List.getElem_cons_zero, Act.put, List.setIfInBounds_toArray, List.set_cons_zero, List.set_cons_succ]
          refine wpAnyH_take (i := 9) (v := ?v10) rfl (by kernel_rfl) (by kernel_rfl) (by kernel_rfl) (fun _ _ _ h => h) (Or.inl ⟨by rfl, ?y10⟩) (by assumption) ?r10
          case y10 => (intro w hSw; (try dsimp only at hSw); go_simp; try (with_reducible rfl))
          simp only [List.getElem_toArray, List.getElem_cons_succ, List.getElem_cons_zero, Act.put, List.setIfInBounds_toArray, List.set_cons_zero, List.set_cons_succ]
          refine wpAnyH_ready (rs := [10]) (by kernel_rfl) (by simp) ?_
          refine AllReadyH.cons rfl (fun K hK => ?_) AllReadyH.nil
          simp only [List.getElem_toArray, List.getElem_cons_succ, List.getElem_cons_zero]
          go_simp
          go_at_call 50
          refine (CA.out _).mono ?_
          rintro e w2 ⟨rfl, hb1⟩
          dsimp only
          refine hK.out _ _ ?_ (fun hHeld => ?_)
          · exact ⟨(hb1.cell (p := ⟨cb, 0, none⟩) (blk_lt hHeld.1)).trans hHeld.1, (hb1.cell (p := ⟨cb, 1, none⟩) (blk_lt hHeld.2.1)).trans hHeld.2.1, (hb1.cell (p := ⟨cb, 2, none⟩) (blk_lt hHeld.2.2.1)).trans hHeld.2.2.1, (hb1.cell (p := ⟨cb, 3, none⟩) (blk_lt hHeld.2.2.2.1)).trans hHeld.2.2.2.1, (hb1.cell (p := ⟨cb, 4, none⟩) (blk_lt hHeld.2.2.2.2.1)).trans hHeld.2.2.2.2.1, (hb1.cell (p := ⟨w.heap.size, 0, none⟩) (blk_lt hHeld.2.2.2.2.2.1)).trans hHeld.2.2.2.2.2.1, (hb1.cell (p := ⟨w.heap.size, 1, none⟩) (blk_lt hHeld.2.2.2.2.2.2.1)).trans hHeld.2.2.2.2.2.2.1, (hb1.cell (p := ⟨w.heap.size, 2, none⟩) (blk_lt hHeld.2.2.2.2.2.2.2.1)).trans hHeld.2.2.2.2.2.2.2.1, (hb1.cell (p := ⟨w.heap.size, 3, none⟩) (blk_lt hHeld.2.2.2.2.2.2.2.2.1)).trans hHeld.2.2.2.2.2.2.2.2.1, (hb1.cell (p := ⟨w.heap.size, 4, none⟩) (blk_lt hHeld.2.2.2.2.2.2.2.2.2.1)).trans hHeld.2.2.2.2.2.2.2.2.2.1, (hb1.cell (p := ⟨cb, xn, none⟩) (blk_lt hHeld.2.2.2.2.2.2.2.2.2.2.1)).trans hHeld.2.2.2.2.2.2.2.2.2.2.1, (hb1.cell (p := ⟨w.heap.size, xn, none⟩) (blk_lt hHeld.2.2.2.2.2.2.2.2.2.2.2.1)).trans hHeld.2.2.2.2.2.2.2.2.2.2.2.1, hHeld.2.2.2.2.2.2.2.2.2.2.2.2.trans (hb1.mono hHeld.2.2.2.2.2.2.2.2.2.2.2.2.size)⟩
          clear hK K
          try simp only [Act.put, List.setIfInBounds_toArray, List.set_cons_zero, List.set_cons_succ]
          refine wpAnyH_take (i := 11) (v := ?v11) rfl (by kernel_rfl) (by kernel_rfl) (by kernel_rfl) (fun _ _ _ h => h) (Or.inl ⟨by rfl, ?y11⟩) (by assumption) ?r11
          case y11 => (intro w hSw; (try dsimp only at hSw); go_simp; try (with_reducible rfl))
          simp only [List.getElem_toArray, List.getElem_cons_succ, List.getElem_cons_zero, Act.put, List.setIfInBounds_toArray, List.set_cons_zero, List.set_cons_succ]
          refine wpAnyH_take (i := 12) (v := ?v12) rfl (by kernel_rfl) (by kernel_rfl) (by kernel_rfl) (fun _ _ _ h => h) (Or.inl ⟨by rfl, ?y12⟩) (by assumption) ?r12
          case y12 => (intro w hSw; (try dsimp only at hSw); go_simp; try (with_reducible rfl))
          simp only [List.getElem_toArray, List.getElem_cons_succ, List.getElem_cons_zero, Act.put, List.setIfInBounds_toArray, List.set_cons_zero, List.set_cons_succ]
          refine wpAnyH_done (by kernel_rfl) ?_ _
          have B3 := hide (HST.out _ hHeld.2.2.2.2.2.2.2.2.2.2.2.2)
          clear hHeld
          go_wp2
          go_roundw
          case rel => exact ⟨k + 1, by omega, by go_num, HJ2.out, B3.out⟩
          case measure => simp [intOf]; omega
        | false =>
          have E : Hid (bb = false) := by
            cases bb with
            | false => rfl
            | true => exact absurd (HAM.out.2 (HNO.out rfl hle)) (by simp)
          refine wp_region_held_drew (S := (fun wx => wx.cell? ⟨cb, 0, none⟩ = some (.int .i64 (M 0)) ∧ wx.cell? ⟨cb, 1, none⟩ = some (.int .i64 (M 1)) ∧ wx.cell? ⟨cb, 2, none⟩ = some (.int .i64 (M 2)) ∧ wx.cell? ⟨cb, 3, none⟩ = some (.int .i64 (M 3)) ∧ wx.cell? ⟨cb, 4, none⟩ = some (.int .i64 (M 4)) ∧ wx.cell? ⟨w.heap.size, 0, none⟩ = some (.int .i64 (U 0)) ∧ wx.cell? ⟨w.heap.size, 1, none⟩ = some (.int .i64 (U 1)) ∧ wx.cell? ⟨w.heap.size, 2, none⟩ = some (.int .i64 (U 2)) ∧ wx.cell? ⟨w.heap.size, 3, none⟩ = some (.int .i64 (U 3)) ∧ wx.cell? ⟨w.heap.size, 4, none⟩ = some (.int .i64 (U 4)) ∧ wx.cell? ⟨cb, xn, none⟩ = some (.int .i64 mc) ∧ wx.cell? ⟨w.heap.size, xn, none⟩ = some (.int .i64 mu) ∧ Below V.heap.size V wx)) (by kernel_rfl) ⟨m0, m1, m2, m3, m4, u0, u1, u2, u3, u4, mx, ux, (Below.refl _ _).drew⟩ (fun hHeld => ?_)
          refine wpAnyH_take (i := 0) (v := ?v13) rfl (by kernel_rfl) (by kernel_rfl) (by kernel_rfl) (fun _ _ _ h => h) (Or.inl ⟨by rfl, ?y13⟩) (by assumption) ?r13
          case y13 => (intro w hSw; (try dsimp only at hSw); go_simp; try (with_reducible rfl))
          simp only [List.getElem_toArray, List.getElem_cons_zero, Act.put, List.setIfInBounds_toArray, List.set_cons_zero, List.set_cons_succ]
          refine wpAnyH_take (i := 1) (v := ?v14) rfl (by kernel_rfl) (by kernel_rfl) (by kernel_rfl) (fun _ _ _ h => h) (Or.inl ⟨by rfl, ?y14⟩) (by assumption) ?r14
          case y14 => (intro w hSw; (try dsimp only at hSw); go_simp; try (with_reducible rfl))
          simp only [List.getElem_toArray, List.getElem_cons_succ, List.getElem_cons_zero, Act.put, List.setIfInBounds_toArray, List.set_cons_zero, List.set_cons_succ]
          refine wpAnyH_take (i := 2) (v := ?v15) rfl (by kernel_rfl) (by kernel_rfl) (by kernel_rfl) (fun _ _ _ h => h) (Or.inl ⟨by rfl, ?y15⟩) (by assumption) ?r15
          case y15 => (intro w hSw; (try dsimp only at hSw); go_simp; try (with_reducible rfl))
          simp only [List.getElem_toArray, List.getElem_cons_succ, List.getElem_cons_zero, Act.put, List.setIfInBounds_toArray, List.set_cons_zero, List.set_cons_succ]
          refine wpAnyH_take (i := 3) (v := ?v16) rfl (by kernel_rfl) (by kernel_rfl) (by kernel_rfl) (fun _ _ _ h => h) (Or.inl ⟨by rfl, ?y16⟩) (by assumption) ?r16
          case y16 => (intro w hSw; (try dsimp only at hSw); go_simp; try (with_reducible rfl))
          simp only [List.getElem_toArray, List.getElem_cons_succ, List.getElem_cons_zero, Act.put, List.setIfInBounds_toArray, List.set_cons_zero, List.set_cons_succ]
          refine wpAnyH_take (i := 4) (v := ?v17) rfl (by kernel_rfl) (by kernel_rfl) (by kernel_rfl) (fun _ _ _ h => h) (Or.inl ⟨by rfl, ?y17⟩) (by assumption) ?r17
          case y17 => (intro w hSw; (try dsimp only at hSw); go_simp; try (with_reducible rfl))
          simp only [List.getElem_toArray, List.getElem_cons_succ, List.getElem_cons_zero, Act.put, List.setIfInBounds_toArray, List.set_cons_zero, List.set_cons_succ]
          refine wpAnyH_take (i := 5) (v := ?v18) rfl (by kernel_rfl) (by kernel_rfl) (by kernel_rfl) (fun _ _ _ h => h) (Or.inl ⟨by rfl, ?y18⟩) (by assumption) ?r18
          case y18 => (intro w hSw; (try dsimp only at hSw); go_simp; try (with_reducible rfl))
          simp only [List.getElem_toArray, List.getElem_cons_succ, List.getElem_cons_zero, Act.put, List.setIfInBounds_toArray, List.set_cons_zero, List.set_cons_succ]
          refine wpAnyH_take (i := 6) (v := ?v19) rfl (by kernel_rfl) (by kernel_rfl) (by kernel_rfl) (fun _ _ _ h => h) (Or.inl ⟨by rfl, ?y19⟩) (by assumption) ?r19
          case y19 => (intro w hSw; (try dsimp only at hSw); go_simp; try (with_reducible rfl))
          simp only [List.getElem_toArray, List.getElem_cons_succ, List.getElem_cons_zero, Act.put, List.setIfInBounds_toArray, List.set_cons_zero, List.set_cons_succ]
          refine wpAnyH_take (i := 7) (v := ?v20) rfl (by kernel_rfl) (by kernel_rfl) (by kernel_rfl) (fun _ _ _ h => h) (Or.inl ⟨by rfl, ?y20⟩) (by assumption) ?r20
          case y20 => (intro w hSw; (try dsimp only at hSw); go_simp; try (with_reducible rfl))
          simp only [List.getElem_toArray, List.getElem_cons_succ, List.getElem_cons_zero, Act.put, List.setIfInBounds_toArray, List.set_cons_zero, List.set_cons_succ]
          refine wpAnyH_take (i := 8) (v := ?v21) rfl (by kernel_rfl) (by kernel_rfl) (by kernel_rfl) (fun _ _ _ h => h) (Or.inl ⟨by rfl, ?y21⟩) (by assumption) ?r21
          case y21 => (intro w hSw; (try dsimp only at hSw); go_simp; try (with_reducible rfl))
          simp only [List.getElem_toArray, List.getElem_cons_succ, List.getElem_cons_zero, Act.put, List.setIfInBounds_toArray, List.set_cons_zero, List.set_cons_succ]
          refine wpAnyH_take (i := 9) (v := ?v22) rfl (by kernel_rfl) (by kernel_rfl) (by kernel_rfl) (fun _ _ _ h => h) (Or.inl ⟨by rfl, ?y22⟩) (by assumption) ?r22
          case y22 => (intro w hSw; (try dsimp only at hSw); go_simp; try (with_reducible rfl))
          simp only [List.getElem_toArray, List.getElem_cons_succ, List.getElem_cons_zero, Act.put, List.setIfInBounds_toArray, List.set_cons_zero, List.set_cons_succ]
          refine wpAnyH_ready (rs := [10]) (by kernel_rfl) (by simp) ?_
          refine AllReadyH.cons rfl (fun K hK => ?_) AllReadyH.nil
          simp only [List.getElem_toArray, List.getElem_cons_succ, List.getElem_cons_zero]
          go_simp
          go_at_call 50
          refine (CA.out _).mono ?_
          rintro e w2 ⟨rfl, hb1⟩
          dsimp only
          refine hK.out _ _ ?_ (fun hHeld => ?_)
          · exact ⟨(hb1.cell (p := ⟨cb, 0, none⟩) (blk_lt hHeld.1)).trans hHeld.1, (hb1.cell (p := ⟨cb, 1, none⟩) (blk_lt hHeld.2.1)).trans hHeld.2.1, (hb1.cell (p := ⟨cb, 2, none⟩) (blk_lt hHeld.2.2.1)).trans hHeld.2.2.1, (hb1.cell (p := ⟨cb, 3, none⟩) (blk_lt hHeld.2.2.2.1)).trans hHeld.2.2.2.1, (hb1.cell (p := ⟨cb, 4, none⟩) (blk_lt hHeld.2.2.2.2.1)).trans hHeld.2.2.2.2.1, (hb1.cell (p := ⟨w.heap.size, 0, none⟩) (blk_lt hHeld.2.2.2.2.2.1)).trans hHeld.2.2.2.2.2.1, (hb1.cell (p := ⟨w.heap.size, 1, none⟩) (blk_lt hHeld.2.2.2.2.2.2.1)).trans hHeld.2.2.2.2.2.2.1, (hb1.cell (p := ⟨w.heap.size, 2, none⟩) (blk_lt hHeld.2.2.2.2.2.2.2.1)).trans hHeld.2.2.2.2.2.2.2.1, (hb1.cell (p := ⟨w.heap.size, 3, none⟩) (blk_lt hHeld.2.2.2.2.2.2.2.2.1)).trans hHeld.2.2.2.2.2.2.2.2.1, (hb1.cell (p := ⟨w.heap.size, 4, none⟩) (blk_lt hHeld.2.2.2.2.2.2.2.2.2.1)).trans hHeld.2.2.2.2.2.2.2.2.2.1, (hb1.cell (p := ⟨cb, xn, none⟩) (blk_lt hHeld.2.2.2.2.2.2.2.2.2.2.1)).trans hHeld.2.2.2.2.2.2.2.2.2.2.1, (hb1.cell (p := ⟨w.heap.size, xn, none⟩) (blk_lt hHeld.2.2.2.2.2.2.2.2.2.2.2.1)).trans hHeld.2.2.2.2.2.2.2.2.2.2.2.1, hHeld.2.2.2.2.2.2.2.2.2.2.2.2.trans (hb1.mono hHeld.2.2.2.2.2.2.2.2.2.2.2.2.size)⟩
          clear hK K
          try simp only [Act.put, List.setIfInBounds_toArray, List.set_cons_zero, List.set_cons_succ]
          refine wpAnyH_take (i := 11) (v := ?v23) rfl (by kernel_rfl) (by kernel_rfl) (by kernel_rfl) (fun _ _ _ h => h) (Or.inl ⟨by rfl, ?y23⟩) (by assumption) ?r23
          case y23 => (intro w hSw; (try dsimp only at hSw); go_simp; try (with_reducible rfl))
          simp only [List.getElem_toArray, List.getElem_cons_succ, List.getElem_cons_zero, Act.put, List.setIfInBounds_toArray, List.set_cons_zero, List.set_cons_succ]
          refine wpAnyH_take (i := 12) (v := ?v24) rfl (by kernel_rfl) (by kernel_rfl) (by kernel_rfl) (fun _ _ _ h => h) (Or.inl ⟨by rfl, ?y24⟩) (by assumption) ?r24
          case y24 => (intro w hSw; (try dsimp only at hSw); go_simp; try (with_reducible rfl))
          simp only [List.getElem_toArray, List.getElem_cons_succ, List.getElem_cons_zero, Act.put, List.setIfInBounds_toArray, List.set_cons_zero, List.set_cons_succ]
          refine wpAnyH_done (by kernel_rfl) ?_ _
          have B3 := hide (HEND.out _ hHeld.2.2.2.2.2.2.2.2.2.2.2.2)
          clear hHeld
          go_wp2
          go_ret
          exact ⟨by rw [E.out]; rfl, B3.out⟩
      · have HJ2 := hide (HJJ.out.2 (fun h => absurd h hle))
        refine wp_region_held_drew (S := (fun wx => wx.cell? ⟨cb, 0, none⟩ = some (.int .i64 (M 0)) ∧ wx.cell? ⟨cb, 1, none⟩ = some (.int .i64 (M 1)) ∧ wx.cell? ⟨cb, 2, none⟩ = some (.int .i64 (M 2)) ∧ wx.cell? ⟨cb, 3, none⟩ = some (.int .i64 (M 3)) ∧ wx.cell? ⟨cb, 4, none⟩ = some (.int .i64 (M 4)) ∧ wx.cell? ⟨w.heap.size, 0, none⟩ = some (.int .i64 (U 0)) ∧ wx.cell? ⟨w.heap.size, 1, none⟩ = some (.int .i64 (U 1)) ∧ wx.cell? ⟨w.heap.size, 2, none⟩ = some (.int .i64 (U 2)) ∧ wx.cell? ⟨w.heap.size, 3, none⟩ = some (.int .i64 (U 3)) ∧ wx.cell? ⟨w.heap.size, 4, none⟩ = some (.int .i64 (U 4)) ∧ wx.cell? ⟨cb, xn, none⟩ = some (.int .i64 mc) ∧ wx.cell? ⟨w.heap.size, xn, none⟩ = some (.int .i64 mu) ∧ Below V.heap.size V wx)) (by kernel_rfl) ⟨m0, m1, m2, m3, m4, u0, u1, u2, u3, u4, mx, ux, (Below.refl _ _).drew⟩ (fun hHeld => ?_)
        refine wpAnyH_take (i := 0) (v := ?v25) rfl (by kernel_rfl) (by kernel_rfl) (by kernel_rfl) (fun _ _ _ h => h) (Or.inl ⟨by rfl, ?y25⟩) (by assumption) ?r25
        case y25 => (intro w hSw; (try dsimp only at hSw); go_simp; try (with_reducible rfl))
        simp only [List.getElem_toArray, List.getElem_cons_zero, Act.put, List.setIfInBounds_toArray, List.set_cons_zero, List.set_cons_succ]
        refine wpAnyH_take (i := 1) (v := ?v26) rfl (by kernel_rfl) (by kernel_rfl) (by kernel_rfl) (fun _ _ _ h => h) (Or.inl ⟨by rfl, ?y26⟩) (by assumption) ?r26
        case y26 => (intro w hSw; (try dsimp only at hSw); go_simp; try (with_reducible rfl))
        simp only [List.getElem_toArray, List.getElem_cons_succ, List.getElem_cons_zero, Act.put, List.setIfInBounds_toArray, List.set_cons_zero, List.set_cons_succ]
        refine wpAnyH_take (i := 2) (v := ?v27) rfl (by kernel_rfl) (by kernel_rfl) (by kernel_rfl) (fun _ _ _ h => h) (Or.inl ⟨by rfl, ?y27⟩) (by assumption) ?r27
        case y27 => (intro w hSw; (try dsimp only at hSw); go_simp; try (with_reducible rfl))
        simp only [List.getElem_toArray, List.getElem_cons_succ, List.getElem_cons_zero, Act.put, List.setIfInBounds_toArray, List.set_cons_zero, List.set_cons_succ]
        refine wpAnyH_take (i := 3) (v := ?v28) rfl (by kernel_rfl) (by kernel_rfl) (by kernel_rfl) (fun _ _ _ h => h) (Or.inl ⟨by rfl, ?y28⟩) (by assumption) ?r28
        case y28 => (intro w hSw; (try dsimp only at hSw); go_simp; try (with_reducible rfl))
        simp only [List.getElem_toArray, List.getElem_cons_succ, List.getElem_cons_zero, Act.put, List.setIfInBounds_toArray, List.set_cons_zero, List.set_cons_succ]
        refine wpAnyH_take (i := 4) (v := ?v29) rfl (by kernel_rfl) (by kernel_rfl) (by kernel_rfl) (fun _ _ _ h => h) (Or.inl ⟨by rfl, ?y29⟩) (by assumption) ?r29
        case y29 => (intro w hSw; (try dsimp only at hSw); go_simp; try (with_reducible rfl))
        simp only [List.getElem_toArray, List.getElem_cons_succ, List.getElem_cons_zero, Act.put, List.setIfInBounds_toArray, List.set_cons_zero, List.set_cons_succ]
        refine wpAnyH_take (i := 5) (v := ?v30) rfl (by kernel_rfl) (by kernel_rfl) (by kernel_rfl) (fun _ _ _ h => h) (Or.inl ⟨by rfl, ?y30⟩) (by assumption) ?r30
        case y30 => (intro w hSw; (try dsimp only at hSw); go_simp; try (with_reducible rfl))
        simp only [List.getElem_toArray, List.getElem_cons_succ, List.getElem_cons_zero, Act.put, List.setIfInBounds_toArray, List.set_cons_zero, List.set_cons_succ]
        refine wpAnyH_take (i := 6) (v := ?v31) rfl (by kernel_rfl) (by kernel_rfl) (by kernel_rfl) (fun _ _ _ h => h) (Or.inl ⟨by rfl, ?y31⟩) (by assumption) ?r31
        case y31 => (intro w hSw; (try dsimp only at hSw); go_simp; try (with_reducible rfl))
        simp only [List.getElem_toArray, List.getElem_cons_succ, List.getElem_cons_zero, Act.put, List.setIfInBounds_toArray, List.set_cons_zero, List.set_cons_succ]
        refine wpAnyH_take (i := 7) (v := ?v32) rfl (by kernel_rfl) (by kernel_rfl) (by kernel_rfl) (fun _ _ _ h => h) (Or.inl ⟨by rfl, ?y32⟩) (by assumption) ?r32
        case y32 => (intro w hSw; (try dsimp only at hSw); go_simp; try (with_reducible rfl))
        simp only [List.getElem_toArray, List.getElem_cons_succ, List.getElem_cons_zero, Act.put, List.setIfInBounds_toArray, List.set_cons_zero, List.set_cons_succ]
        refine wpAnyH_take (i := 8) (v := undef) rfl (by kernel_rfl) (by kernel_rfl) (by kernel_rfl) (fun _ _ _ h => h) (Or.inr ⟨by rfl, rfl⟩) (by assumption) ?_
        simp only [List.getElem_toArray, List.getElem_cons_succ, List.getElem_cons_zero, Act.put, List.setIfInBounds_toArray, List.set_cons_zero, List.set_cons_succ]
        refine wpAnyH_take (i := 9) (v := undef) rfl (by kernel_rfl) (by kernel_rfl) (by kernel_rfl) (fun _ _ _ h => h) (Or.inr ⟨by rfl, rfl⟩) (by assumption) ?_
        simp only [List.getElem_toArray, List.getElem_cons_succ, List.getElem_cons_zero, Act.put, List.setIfInBounds_toArray, List.set_cons_zero, List.set_cons_succ]
        refine wpAnyH_take (i := 10) (v := undef) rfl (by kernel_rfl) (by kernel_rfl) (by kernel_rfl) (fun _ _ _ h => h) (Or.inr ⟨by rfl, rfl⟩) (by assumption) ?_
        simp only [List.getElem_toArray, List.getElem_cons_succ, List.getElem_cons_zero, Act.put, List.setIfInBounds_toArray, List.set_cons_zero, List.set_cons_succ]
        refine wpAnyH_take (i := 11) (v := undef) rfl (by kernel_rfl) (by kernel_rfl) (by kernel_rfl) (fun _ _ _ h => h) (Or.inr ⟨by rfl, rfl⟩) (by assumption) ?_
        simp only [List.getElem_toArray, List.getElem_cons_succ, List.getElem_cons_zero, Act.put, List.setIfInBounds_toArray, List.set_cons_zero, List.set_cons_succ]
        refine wpAnyH_take (i := 12) (v := ?v37) rfl (by kernel_rfl) (by kernel_rfl) (by kernel_rfl) (fun _ _ _ h => h) (Or.inl ⟨by rfl, ?y37⟩) (by assumption) ?r37
        case y37 => (intro w hSw; (try dsimp only at hSw); go_simp; try (with_reducible rfl))
        simp only [List.getElem_toArray, List.getElem_cons_succ, List.getElem_cons_zero, Act.put, List.setIfInBounds_toArray, List.set_cons_zero, List.set_cons_succ]
        refine wpAnyH_done (by kernel_rfl) ?_ _
        have B3 := hide (HST.out _ hHeld.2.2.2.2.2.2.2.2.2.2.2.2)
        clear hHeld
        go_wp2
        go_roundw
        case rel => exact ⟨k + 1, by omega, by go_num, HJ2.out, B3.out⟩
        case measure => simp [intOf]; omega
    · have hltI : ¬ (k : Int) < (n : Int) := by omega
      have E : Hid (bb = true) := HBB.out.2 (fun j hj => HJ.out j (by omega))
      have B3 := hide (B1.out.trans (hbel.mono B1.out.size))
      clear hbel
      go_wp2
      go_ret
      exact ⟨by rw [E.out]; rfl, B3.out⟩
end Go.Proofs.Ytkfnejiiancmhah.L11
