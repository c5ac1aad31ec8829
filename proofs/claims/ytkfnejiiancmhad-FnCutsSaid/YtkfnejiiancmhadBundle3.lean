/-
  Contracts: impl.countEvents, isClosed, IsCut.
  Cuts; contract: impl.IsCut.
  Contract: spec.l1In.
  Contract: spec.l11Upto, whether a cut has no more events than there are.
  Contract: spec.GoodEvents tells whether events are good.
  Contract: spec.IsCut.
  Plain mathematics of chapter 4: rising lists of ints, leaps, what is met, taken off and joined. Nothing of Go stands here.
  Plain mathematics of the search for what came first. Nothing of Go stands here.
-/
import Derived.Test.YtkfnejiiancmhadBundle2
import Derived.Test.YtkfnejiiancmhadBundle1
import Derived.KernelRfl
namespace Go.Proofs.Ytkfnejiiancmhad.L11
open Go.RowKit L1 Own
set_option linter.unusedVariables false

/-- How many of the first events each node has. -/
def cntE (l : List Ev) (k : Nat) : Nat → Int := fun i => cnt l (i : Int) k
theorem cntE_succ (l : List Ev) (k x : Nat) (hx : nd l k = (x : Int)) (i : Nat) : updI (cntE l k) x (cntE l k x + 1) i = cntE l (k + 1) i := by
  unfold updI cntE
  show _ = cnt l (i : Int) k + _
  by_cases e : i = x
  · subst e; rw [if_pos rfl, if_pos hx]
  · rw [if_neg e, if_neg (by omega)]; omega
set_option maxRecDepth 100000 in
set_option maxHeartbeats 4000000 in
theorem countEvents_any (N : Int) (a : Option Addr) (l : List (Int × Int)) (n cap : Nat) (w : World) (hn : l.length = n) (hs : Sl2 w a l) (hg : GoodV N l) :
    Calls Try.prog 91 #[.slice a n cap] w fun e w' => e = .returned (cv (cntE l n)) ∧ Below w.heap.size w w' := by
  have h40 : n ≤ 40 := by have := hg.2.2.1; omega
  have HG := hide hg
  have HS := hide hs
  have HN := hide hn
  clear hg hs hn
  go_enter Try.func91, Try.ntmps91
  go_upto_region 2 with fail
  obtain ⟨W, hW⟩ : ∃ W, (w.alloc (.cells #[.int .i64 0, .int .i64 0, .int .i64 0, .int .i64 0, .int .i64 0] 112)).alloc (.cells #[.int .i64 0, .int .i64 0, .int .i64 0, .int .i64 0, .int .i64 0] 112) = W := ⟨_, rfl⟩
  have H0 : Hid (K2 w W (fun _ => 0) (cntE l 0)) := by
    rw [← hW]
    exact hide ⟨(clk_zero w _ _ rfl (Nat.le_refl _)).alloc _, clk_zero _ _ _ (by simp) (by omega), ((Below.refl _ _).alloc (Nat.le_refl _) _).alloc (by simp) _⟩
  rw [hW]
  clear hW
  go_wp2
  go_loopw [8] (fun i wr => ∃ k : Nat, k ≤ n ∧ i = .int .i64 k ∧ Hid (K2 w wr (fun _ => 0) (cntE l k))) (fun i _ => n - (intOf i).toNat)
  case atStart => exact ⟨0, Nat.zero_le _, rfl, H0⟩
  case round =>
    obtain ⟨k, hk, rfl, HK⟩ := hrel
    by_cases hlt : k < n
    · have hv := HG.out.2.2.2 k (by rw [HN.out]; exact hlt)
      have hN5 := HG.out.2.1
      obtain ⟨xn, hx⟩ : ∃ xn : Nat, nd l k = (xn : Int) := ⟨(nd l k).toNat, by have := hv.1; omega⟩
      have hx5 : xn < 5 := by have := hv.2.1; omega
      have hsl := HS.out.below HK.out.bel
      obtain ⟨b, off, rfl, q1, q2⟩ := hsl k (by rw [HN.out]; exact hlt)
      clear q1 q2
      obtain ⟨hc, hd⟩ := hsl.two k (by rw [HN.out]; exact hlt)
      rw [hx] at hc
      obtain ⟨y, hy⟩ : ∃ y, y = fr l k := ⟨_, rfl⟩
      rw [← hy] at hd
      have hltI : (k : Int) < (n : Int) := by omega
      have hxI : (xn : Int) < 5 := by omega
      have hx0 : (0 : Int) ≤ (xn : Int) := by omega
      have HX := hide hx
      clear hx hv hsl hy
      go_upto_region 5 with fail
      obtain ⟨W0, hW0⟩ : ∃ W0, wr.alloc (.cells #[.int .i64 xn, .int .i64 y] 118) = W0 := ⟨_, rfl⟩
      have hbw : Below wr.heap.size wr W0 := by rw [← hW0]; exact (Below.refl _ _).alloc (Nat.le_refl _) _
      have e0 : W0.cell? ⟨wr.heap.size, 0, none⟩ = some (.int .i64 xn) := by rw [← hW0]; simp
      have HK0 : Hid (K2 w W0 (fun _ => 0) (cntE l k)) := hide ⟨HK.out.a.below hbw, HK.out.b.below hbw, HK.out.bel.trans (hbw.mono HK.out.bel.size)⟩
      rw [hW0]
      clear hW0 hbw HK
      have hcx := HK0.out.b.cell xn hx5
      have hcf := HK0.out.b.frozenAt xn
      have hb0 := cnt_nn l (xn : Int) k
      have hb1 := cnt_le l (xn : Int) k
      have hsu := cntE_succ l k xn HX.out
      obtain ⟨m, hm⟩ : ∃ m, m = cntE l k xn := ⟨_, rfl⟩
      rw [← hm] at hcx hsu
      have hm0 : 0 ≤ m := by rw [hm]; exact hb0
      have hm1 : m ≤ 40 := by rw [hm]; unfold cntE; omega
      have HN2 : Hid (K2 w (W0.setCell ⟨w.heap.size + 1, xn, none⟩ (.int .i64 (m + 1))) (fun _ => 0) (cntE l (k + 1))) := hide
        ⟨HK0.out.a.keep xn _ (by omega), (HK0.out.b.set xn (m + 1)).congr (fun i _ => hsu i), HK0.out.bel.setCell (p := ⟨w.heap.size + 1, xn, none⟩) (by simp only; omega) _⟩
      clear hm hsu hb0 hb1 HK0
      go_wp2
      go_roundw
      case rel => exact ⟨k + 1, by omega, by go_num, HN2⟩
      case measure => simp [intOf]; omega
    · obtain rfl : k = n := by omega
      have hltI : ¬ (k : Int) < (k : Int) := by omega
      have e0 := HK.out.b.cell 0 (by omega)
      have r0 := HK.out.a.cell 0 (by omega)
      have f0 := HK.out.a.frozenAt 0
      have e1 := HK.out.b.cell 1 (by omega)
      have r1 := HK.out.a.cell 1 (by omega)
      have f1 := HK.out.a.frozenAt 1
      have e2 := HK.out.b.cell 2 (by omega)
      have r2 := HK.out.a.cell 2 (by omega)
      have f2 := HK.out.a.frozenAt 2
      have e3 := HK.out.b.cell 3 (by omega)
      have r3 := HK.out.a.cell 3 (by omega)
      have f3 := HK.out.a.frozenAt 3
      have e4 := HK.out.b.cell 4 (by omega)
      have r4 := HK.out.a.cell 4 (by omega)
      have f4 := HK.out.a.frozenAt 4
      go_wp2
      refine bodyPost_ret (v := cv (cntE l k)) (by simp [results, Try.f91, go_sem, *]) rfl ⟨rfl, ?_⟩
      exact (((((HK.out.bel.setCell (p := ⟨w.heap.size, 0, none⟩) (by simp only; omega) _).setCell (p := ⟨w.heap.size, 1, none⟩) (by simp only; omega) _).setCell (p := ⟨w.heap.size, 2, none⟩) (by simp only; omega) _).setCell (p := ⟨w.heap.size, 3, none⟩) (by simp only; omega) _).setCell (p := ⟨w.heap.size, 4, none⟩) (by simp only; omega) _)
set_option maxRecDepth 100000 in
set_option maxHeartbeats 4000000 in
theorem isClosed_any (N : Int) (a : Option Addr) (l : List (Int × Int)) (n cap : Nat) (U : Nat → Int) (w : World) (hn : l.length = n) (hs : Sl2 w a l) (hg : GoodV N l) (bb : Bool) (hbb : bb = true ↔ ∀ k, k < n → clk l k (nd l k) ≤ U (nd l k).toNat → ∀ i : Nat, i < 5 → cE l k i ≤ U i) :
    Calls Try.prog 92 #[.slice a n cap, cv U] w fun e w' => e = .returned (.bool bb) ∧ Below w.heap.size w w' := by
  have h40 : n ≤ 40 := by have := hg.2.2.1; omega
  have C := hide (fun w hs => clocksOf_any N a l n cap w hn hs hg)
  have HG := hide hg
  have HS := hide hs
  have HN := hide hn
  have HBB := hide hbb
  clear hg hs hn hbb
  go_enter Try.func92, Try.ntmps92
  go_upto_region 1 with fail
  obtain ⟨W, hW⟩ : ∃ W, w.alloc (.cells #[.int .i64 (U 0), .int .i64 (U 1), .int .i64 (U 2), .int .i64 (U 3), .int .i64 (U 4)] 112) = W := ⟨_, rfl⟩
  have hbW : Below w.heap.size w W := by rw [← hW]; exact (Below.refl _ _).alloc (Nat.le_refl _) _
  have HU : Hid (Clk W w.heap.size w.heap.size U) := by rw [← hW]; exact hide (clk_new w _ _ rfl (Nat.le_refl _) U)
  rw [hW]
  have HBW := hide hbW
  clear hW hbW
  go_wp2_with fail
  refine (C.out _ (HS.out.below HBW.out)).mono ?_
  rintro e w1 ⟨v, rfl, ho, hb1⟩
  have B1 := hide (HBW.out.trans (hb1.mono HBW.out.size))
  have HU1 := hide (HU.out.below hb1)
  obtain ⟨oa, ocap, rfl⟩ : ∃ oa ocap, v = .slice oa n ocap := by
    rcases ho.2 with ⟨hv, h0⟩ | ⟨q, cap, cur, hv, _⟩
    · subst h0; exact ⟨none, 0, hv⟩
    · exact ⟨_, cap, hv⟩
  have HO := hide ho
  clear ho hb1 C HBW HU
  go_wp2
  go_loopw [11] (fun i wr => ∃ k : Nat, k ≤ n ∧ i = .int .i64 k ∧ Hid (∀ j, j < k → clk l j (nd l j) ≤ U (nd l j).toNat → ∀ i : Nat, i < 5 → cE l j i ≤ U i) ∧ Below w1.heap.size w1 wr) (fun i _ => n - (intOf i).toNat)
  case atStart => exact ⟨0, Nat.zero_le _, rfl, fun j hj => absurd hj (Nat.not_lt_zero _), Below.refl _ _⟩
  case round =>
    obtain ⟨k, hk, rfl, HJ, hbel⟩ := hrel
    by_cases hlt : k < n
    · have hv := HG.out.2.2.2 k (by rw [HN.out]; exact hlt)
      have hN5 := HG.out.2.1
      obtain ⟨xn, hx⟩ : ∃ xn : Nat, nd l k = (xn : Int) := ⟨(nd l k).toNat, by have := hv.1; omega⟩
      have hx5 : xn < 5 := by have := hv.2.1; omega
      have hsl := HS.out.below (B1.out.trans (hbel.mono B1.out.size))
      obtain ⟨b, off, rfl, q1, q2⟩ := hsl k (by rw [HN.out]; exact hlt)
      clear q1 q2
      have HSL := hide hsl
      obtain ⟨oq, hoa⟩ : ∃ q, oa = some ⟨q, 0, none⟩ := by
        rcases HO.out.2 with ⟨hv, h0⟩ | ⟨q, cap, cur, hv, _⟩
        · omega
        · exact ⟨q, by simp at hv; exact hv.1⟩
      subst hoa
      have hO := own_belowT HO.out hbel
      have o0 := hO.cells (g := oq) rfl (k * 5 + 0) _ (flat5_get (cE l) n k 0 hlt (by omega))
      have o1 := hO.cells (g := oq) rfl (k * 5 + 1) _ (flat5_get (cE l) n k 1 hlt (by omega))
      have o2 := hO.cells (g := oq) rfl (k * 5 + 2) _ (flat5_get (cE l) n k 2 hlt (by omega))
      have o3 := hO.cells (g := oq) rfl (k * 5 + 3) _ (flat5_get (cE l) n k 3 hlt (by omega))
      have o4 := hO.cells (g := oq) rfl (k * 5 + 4) _ (flat5_get (cE l) n k 4 hlt (by omega))
      rw [addr_add] at o0 o1 o2 o3 o4
      simp only [Nat.add_zero] at o0 o1 o2 o3 o4
      have hltI : (k : Int) < (n : Int) := by omega
      have hk0 : (0 : Int) ≤ (k : Int) := by omega
      have hxI : (xn : Int) < 5 := by omega
      have hx0 : (0 : Int) ≤ (xn : Int) := by omega
      have hno : bb = true → clk l k (nd l k) ≤ U (nd l k).toNat → ∀ i : Nat, i < 5 → cE l k i ≤ U i := fun h => HBB.out.1 h k hlt
      obtain ⟨M, hM⟩ : ∃ M : Nat → Int, M = cE l k := ⟨_, rfl⟩
      have hcm : clk l k (nd l k) = M xn := by rw [hM, hx]; rfl
      have hxt : (nd l k).toNat = xn := by omega
      have hjj : (∀ j, j < k + 1 → clk l j (nd l j) ≤ U (nd l j).toNat → ∀ i : Nat, i < 5 → cE l j i ≤ U i) ↔ (M xn ≤ U xn → ∀ i : Nat, i < 5 → M i ≤ U i) := by
        constructor
        · intro h h1; have h2 := h k (by omega); rw [hcm, hxt] at h2; rw [hM]; exact h2 h1
        · intro h j hj
          by_cases e : j = k
          · subst e; rw [hcm, hxt, ← hM]; exact h
          · exact HJ.out j (by omega)
      rw [hcm, hxt, ← hM] at hno
      rw [← hM] at o0 o1 o2 o3 o4
      have HX := hide hx
      have HNO := hide hno
      have HJJ := hide hjj
      have HBL := hide hbel
      clear hx hv hsl hO hM hcm hxt hno hjj hbel
      go_upto_region 4 with fail
      obtain ⟨V, hV⟩ : ∃ V, wr.alloc (.cells #[.int .i64 (M 0), .int .i64 (M 1), .int .i64 (M 2), .int .i64 (M 3), .int .i64 (M 4)] 112) = V := ⟨_, rfl⟩
      have hbv : Below wr.heap.size wr V := by rw [← hV]; exact (Below.refl _ _).alloc (Nat.le_refl _) _
      have HC : Hid (Clk V w1.heap.size wr.heap.size M) := by rw [← hV]; exact hide (clk_new wr _ _ rfl HBL.out.size M)
      have HUV := hide ((HU1.out.below HBL.out).below hbv)
      have hcell : V.cell? ⟨b, off + k * 2, none⟩ = some (.int .i64 xn) := by
        have h1 := (HSL.out.two k (by rw [HN.out]; exact hlt)).1
        rw [HX.out] at h1
        exact (hbv.cell (p := ⟨b, off + k * 2, none⟩) (blk_lt h1)).trans h1
      have B2 := hide (HBL.out.trans (hbv.mono HBL.out.size))
      rw [hV]
      obtain ⟨cb, hcb⟩ : ∃ cb, cb = wr.heap.size := ⟨_, rfl⟩
      rw [← hcb] at HC ⊢
      clear hV hbv hcb o0 o1 o2 o3 o4 HSL
      have m0 := HC.out.cell 0 (by omega)
      have u0 := HUV.out.cell 0 (by omega)
      have m1 := HC.out.cell 1 (by omega)
      have u1 := HUV.out.cell 1 (by omega)
      have m2 := HC.out.cell 2 (by omega)
      have u2 := HUV.out.cell 2 (by omega)
      have m3 := HC.out.cell 3 (by omega)
      have u3 := HUV.out.cell 3 (by omega)
      have m4 := HC.out.cell 4 (by omega)
      have u4 := HUV.out.cell 4 (by omega)
      have mx := HC.out.cell xn hx5
      have ux := HUV.out.cell xn hx5
      obtain ⟨mc, hmc⟩ : ∃ mc, mc = M xn := ⟨_, rfl⟩
      obtain ⟨mu, hmu⟩ : ∃ mu, mu = U xn := ⟨_, rfl⟩
      rw [← hmc] at mx HNO HJJ
      rw [← hmu] at ux HNO HJJ
      have hend : ∀ w', Below V.heap.size V w' → Below w.heap.size w w' := fun w' h => B1.out.trans ((B2.out.trans (h.mono B2.out.size)).mono B1.out.size)
      have HEND := hide hend
      have hstay : ∀ w', Below V.heap.size V w' → Below w1.heap.size w1 w' := fun w' h => B2.out.trans (h.mono B2.out.size)
      have HST := hide hstay
      clear hmc hmu HC HUV hend hstay
      go_upto_region 5 with fail
      by_cases hle : mc ≤ mu
      · obtain ⟨am, ham⟩ : ∃ am : Bool, am = true ↔ ∀ i, i < 5 → M i ≤ U i := by
          by_cases h : ∀ i, i < 5 → M i ≤ U i
          · exact ⟨true, by simpa using h⟩
          · exact ⟨false, by simpa using h⟩
        have CA := hide (fun w => isAtMost_any M U w am ham)
        have HAM := hide ham
        clear ham
        cases am with
        | true =>
          have HJ2 := hide (HJJ.out.2 (fun _ => HAM.out.1 rfl))
          refine wp_region_held_drew (S := (fun wx => wx.cell? ⟨cb, 0, none⟩ = some (.int .i64 (M 0)) ∧ wx.cell? ⟨cb, 1, none⟩ = some (.int .i64 (M 1)) ∧ wx.cell? ⟨cb, 2, none⟩ = some (.int .i64 (M 2)) ∧ wx.cell? ⟨cb, 3, none⟩ = some (.int .i64 (M 3)) ∧ wx.cell? ⟨cb, 4, none⟩ = some (.int .i64 (M 4)) ∧ wx.cell? ⟨w.heap.size, 0, none⟩ = some (.int .i64 (U 0)) ∧ wx.cell? ⟨w.heap.size, 1, none⟩ = some (.int .i64 (U 1)) ∧ wx.cell? ⟨w.heap.size, 2, none⟩ = some (.int .i64 (U 2)) ∧ wx.cell? ⟨w.heap.size, 3, none⟩ = some (.int .i64 (U 3)) ∧ wx.cell? ⟨w.heap.size, 4, none⟩ = some (.int .i64 (U 4)) ∧ wx.cell? ⟨cb, xn, none⟩ = some (.int .i64 mc) ∧ wx.cell? ⟨w.heap.size, xn, none⟩ = some (.int .i64 mu) ∧ Below V.heap.size V wx)) (by kernel_rfl) ⟨m0, m1, m2, m3, m4, u0, u1, u2, u3, u4, mx, ux, (Below.refl _ _).drew⟩ (fun hHeld => ?_)
          refine wpAnyH_take (i := 0) (v := ?v1) rfl (by kernel_rfl) (by kernel_rfl) (by kernel_rfl) (fun _ _ _ h => h) (Or.inl ⟨by rfl, ?y1⟩) (by assumption) ?r1
          case y1 => (intro w hSw; (try dsimp only at hSw); go_simp; try (with_reducible rfl))
          simp only [List.getElem_toArray, List.getElem_cons_zero, Act.put, List.setIfInBounds_toArray, List.set_cons_zero, List.set_cons_succ]
          refine wpAnyH_take (i := 1) (v := ?v2) rfl (by kernel_rfl) (by kernel_rfl) (by kernel_rfl) (fun _ _ _ h => h) (Or.inl ⟨by rfl, ?y2⟩) (by assumption) ?r2
          case y2 => (intro w hSw; (try dsimp only at hSw); go_simp; try (with_reducible rfl))
          simp only [List.getElem_toArray, List.getElem_cons_succ, List.getElem_cons_zero, Act.put, List.setIfInBounds_toArray, List.set_cons_zero, List.set_cons_succ]
          refine wpAnyH_take (i := 2) (v := ?v3) rfl (by kernel_rfl) (by kernel_rfl) (by kernel_rfl) (fun _ _ _ h => h) (Or.inl ⟨by rfl, ?y3⟩) (by assumption) ?r3
          case y3 => (intro w hSw; (try dsimp only at hSw); go_simp; try (with_reducible rfl))
          simp only [List.getElem_toArray, List.getElem_cons_succ, List.getElem_cons_zero, Act.put, List.setIfInBounds_toArray, List.set_cons_zero, List.set_cons_succ]
          refine wpAnyH_take (i := 3) (v := ?v4) rfl (by kernel_rfl) (by kernel_rfl) (by kernel_rfl) (fun _ _ _ h => h) (Or.inl ⟨by rfl, ?y4⟩) (by assumption) ?r4
          case y4 => (intro w hSw; (try dsimp only at hSw); go_simp; try (with_reducible rfl))
          simp only [List.getElem_toArray, List.getElem_cons_succ, List.getElem_cons_zero, Act.put, List.setIfInBounds_toArray, List.set_cons_zero, List.set_cons_succ]
          refine wpAnyH_take (i := 4) (v := ?v5) rfl (by kernel_rfl) (by kernel_rfl) (by kernel_rfl) (fun _ _ _ h => h) (Or.inl ⟨by rfl, ?y5⟩) (by assumption) ?r5
          case y5 => (intro w hSw; (try dsimp only at hSw); go_simp; try (with_reducible rfl))
          simp only [List.getElem_toArray, List.getElem_cons_succ, List.getElem_cons_zero, Act.put, List.setIfInBounds_toArray, List.set_cons_zero, List.set_cons_succ]
          refine wpAnyH_take (i := 5) (v := ?v6) rfl (by kernel_rfl) (by kernel_rfl) (by kernel_rfl) (fun _ _ _ h => h) (Or.inl ⟨by rfl, ?y6⟩) (by assumption) ?r6
          case y6 => (intro w hSw; (try dsimp only at hSw); go_simp; try (with_reducible rfl))
          simp only [List.getElem_toArray, List.getElem_cons_succ, List.getElem_cons_zero, Act.put, List.setIfInBounds_toArray, List.set_cons_zero, List.set_cons_succ]
          refine wpAnyH_take (i := 6) (v := ?v7) rfl (by kernel_rfl) (by kernel_rfl) (by kernel_rfl) (fun _ _ _ h => h) (Or.inl ⟨by rfl, ?y7⟩) (by assumption) ?r7
          case y7 => (intro w hSw; (try dsimp only at hSw); go_simp; try (with_reducible rfl))
          simp only [List.getElem_toArray, List.getElem_cons_succ, List.getElem_cons_zero, Act.put, List.setIfInBounds_toArray, List.set_cons_zero, List.set_cons_succ]
          refine wpAnyH_take (i := 7) (v := ?v8) rfl (by kernel_rfl) (by kernel_rfl) (by kernel_rfl) (fun _ _ _ h => h) (Or.inl ⟨by rfl, ?y8⟩) (by assumption) ?r8
          case y8 => (intro w hSw; (try dsimp only at hSw); go_simp; try (with_reducible rfl))
          simp only [List.getElem_toArray, List.getElem_cons_succ, List.getElem_cons_zero, Act.put, List.setIfInBounds_toArray, List.set_cons_zero, List.set_cons_succ]
          refine wpAnyH_take (i := 8) (v := ?v9) rfl (by kernel_rfl) (by kernel_rfl) (by kernel_rfl) (fun _ _ _ h => h) (Or.inl ⟨by rfl, ?y9⟩) (by assumption) ?r9
          case y9 => (intro w hSw; (try dsimp only at hSw); go_simp; try (with_reducible rfl))
          simp only [List.getElem_toArray, List.getElem_cons_succ, List.getElem_cons_zero, Act.put, List.setIfInBounds_toArray, List.set_cons_zero, List.set_cons_succ]
          refine wpAnyH_take (i := 9) (v := ?v10) rfl (by kernel_rfl) (by kernel_rfl) (by kernel_rfl) (fun _ _ _ h => h) (Or.inl ⟨by rfl, ?y10⟩) (by assumption) ?r10
          case y10 => (intro w hSw; (try dsimp only at hSw); go_simp; try (with_reducible rfl))
          simp only [List.getElem_toArray, List.getElem_cons_succ, List.getElem_cons_zero, Act.put, List.setIfInBounds_toArray, List.set_cons_zero, List.set_cons_succ]
          refine wpAnyH_ready (rs := [10]) (by kernel_rfl) (by simp) ?_
          refine AllReadyH.cons rfl (fun K hK => ?_) AllReadyH.nil
          simp only [List.getElem_toArray, List.getElem_cons_succ, List.getElem_cons_zero]
          go_simp
          go_at_call 90
          refine (CA.out _).mono ?_
          rintro e w2 ⟨rfl, hb1⟩
          dsimp only
          refine hK.out _ _ ?_ (fun hHeld => ?_)
          · exact ⟨(hb1.cell (p := ⟨cb, 0, none⟩) (blk_lt hHeld.1)).trans hHeld.1, (hb1.cell (p := ⟨cb, 1, none⟩) (blk_lt hHeld.2.1)).trans hHeld.2.1, (hb1.cell (p := ⟨cb, 2, none⟩) (blk_lt hHeld.2.2.1)).trans hHeld.2.2.1, (hb1.cell (p := ⟨cb, 3, none⟩) (blk_lt hHeld.2.2.2.1)).trans hHeld.2.2.2.1, (hb1.cell (p := ⟨cb, 4, none⟩) (blk_lt hHeld.2.2.2.2.1)).trans hHeld.2.2.2.2.1, (hb1.cell (p := ⟨w.heap.size, 0, none⟩) (blk_lt hHeld.2.2.2.2.2.1)).trans hHeld.2.2.2.2.2.1, (hb1.cell (p := ⟨w.heap.size, 1, none⟩) (blk_lt hHeld.2.2.2.2.2.2.1)).trans hHeld.2.2.2.2.2.2.1, (hb1.cell (p := ⟨w.heap.size, 2, none⟩) (blk_lt hHeld.2.2.2.2.2.2.2.1)).trans hHeld.2.2.2.2.2.2.2.1, (hb1.cell (p := ⟨w.heap.size, 3, none⟩) (blk_lt hHeld.2.2.2.2.2.2.2.2.1)).trans hHeld.2.2.2.2.2.2.2.2.1, (hb1.cell (p := ⟨w.heap.size, 4, none⟩) (blk_lt hHeld.2.2.2.2.2.2.2.2.2.1)).trans hHeld.2.2.2.2.2.2.2.2.2.1, (hb1.cell (p := ⟨cb, xn, none⟩) (blk_lt hHeld.2.2.2.2.2.2.2.2.2.2.1)).trans hHeld.2.2.2.2.2.2.2.2.2.2.1, (hb1.cell (p := ⟨w.heap.size, xn, none⟩) (blk_lt hHeld.2.2.2.2.2.2.2.2.2.2.2.1)).trans hHeld.2.2.2.2.2.2.2.2.2.2.2.1, hHeld.2.2.2.2.2.2.2.2.2.2.2.2.trans (hb1.mono hHeld.2.2.2.2.2.2.2.2.2.2.2.2.size)⟩
          clear hK K
          try simp only [Act.put, List.setIfInBounds_toArray, List.set_cons_zero, List.set_cons_succ]
          refine wpAnyH_take (i := 11) (v := ?v11) rfl (by kernel_rfl) (by kernel_rfl) (by kernel_rfl) (fun _ _ _ h => h) (Or.inl ⟨by rfl, ?y11⟩) (by assumption) ?r11
          case y11 => (intro w hSw; (try dsimp only at hSw); go_simp; try (with_reducible rfl))
          simp only [List.getElem_toArray, List.getElem_cons_succ, List.getElem_cons_zero, Act.put, List.setIfInBounds_toArray, List.set_cons_zero, List.set_cons_succ]
          refine wpAnyH_take (i := 12) (v := ?v12) rfl (by kernel_rfl) (by kernel_rfl) (by kernel_rfl) (fun _ _ _ h => h) (Or.inl ⟨by rfl, ?y12⟩) (by assumption) ?r12
          case y12 => (intro w hSw; (try dsimp only at hSw); go_simp; try (with_reducible rfl))
          simp only [List.getElem_toArray, List.getElem_cons_succ, List.getElem_cons_zero, Act.put, List.setIfInBounds_toArray, List.set_cons_zero, List.set_cons_succ]
          refine wpAnyH_done (by kernel_rfl) ?_ _
          have B3 := hide (HST.out _ hHeld.2.2.2.2.2.2.2.2.2.2.2.2)
          clear hHeld
          go_wp2
          go_roundw
          case rel => exact ⟨k + 1, by omega, by go_num, HJ2.out, B3.out⟩
          case measure => simp [intOf]; omega
        | false =>
          have E : Hid (bb = false) := by
            cases bb with
            | false => rfl
            | true => exact absurd (HAM.out.2 (HNO.out rfl hle)) (by simp)
          refine wp_region_held_drew (S := (fun wx => wx.cell? ⟨cb, 0, none⟩ = some (.int .i64 (M 0)) ∧ wx.cell? ⟨cb, 1, none⟩ = some (.int .i64 (M 1)) ∧ wx.cell? ⟨cb, 2, none⟩ = some (.int .i64 (M 2)) ∧ wx.cell? ⟨cb, 3, none⟩ = some (.int .i64 (M 3)) ∧ wx.cell? ⟨cb, 4, none⟩ = some (.int .i64 (M 4)) ∧ wx.cell? ⟨w.heap.size, 0, none⟩ = some (.int .i64 (U 0)) ∧ wx.cell? ⟨w.heap.size, 1, none⟩ = some (.int .i64 (U 1)) ∧ wx.cell? ⟨w.heap.size, 2, none⟩ = some (.int .i64 (U 2)) ∧ wx.cell? ⟨w.heap.size, 3, none⟩ = some (.int .i64 (U 3)) ∧ wx.cell? ⟨w.heap.size, 4, none⟩ = some (.int .i64 (U 4)) ∧ wx.cell? ⟨cb, xn, none⟩ = some (.int .i64 mc) ∧ wx.cell? ⟨w.heap.size, xn, none⟩ = some (.int .i64 mu) ∧ Below V.heap.size V wx)) (by kernel_rfl) ⟨m0, m1, m2, m3, m4, u0, u1, u2, u3, u4, mx, ux, (Below.refl _ _).drew⟩ (fun hHeld => ?_)
          refine wpAnyH_take (i := 0) (v := ?v13) rfl (by kernel_rfl) (by kernel_rfl) (by kernel_rfl) (fun _ _ _ h => h) (Or.inl ⟨by rfl, ?y13⟩) (by assumption) ?r13
          case y13 => (intro w hSw; (try dsimp only at hSw); go_simp; try (with_reducible rfl))
          simp only [List.getElem_toArray, List.getElem_cons_zero, Act.put, List.setIfInBounds_toArray, List.set_cons_zero, List.set_cons_succ]
          refine wpAnyH_take (i := 1) (v := ?v14) rfl (by kernel_rfl) (by kernel_rfl) (by kernel_rfl) (fun _ _ _ h => h) (Or.inl ⟨by rfl, ?y14⟩) (by assumption) ?r14
          case y14 => (intro w hSw; (try dsimp only at hSw); go_simp; try (with_reducible rfl))
          simp only [List.getElem_toArray, List.getElem_cons_succ, List.getElem_cons_zero, Act.put, List.setIfInBounds_toArray, List.set_cons_zero, List.set_cons_succ]
          refine wpAnyH_take (i := 2) (v := ?v15) rfl (by kernel_rfl) (by kernel_rfl) (by kernel_rfl) (fun _ _ _ h => h) (Or.inl ⟨by rfl, ?y15⟩) (by assumption) ?r15
          case y15 => (intro w hSw; (try dsimp only at hSw); go_simp; try (with_reducible rfl))
          simp only [List.getElem_toArray, List.getElem_cons_succ, List.getElem_cons_zero, Act.put, List.setIfInBounds_toArray, List.set_cons_zero, List.set_cons_succ]
          refine wpAnyH_take (i := 3) (v := ?v16) rfl (by kernel_rfl) (by kernel_rfl) (by kernel_rfl) (fun _ _ _ h => h) (Or.inl ⟨by rfl, ?y16⟩) (by assumption) ?r16
          case y16 => (intro w hSw; (try dsimp only at hSw); go_simp; try (with_reducible rfl))
          simp only [List.getElem_toArray, List.getElem_cons_succ, List.getElem_cons_zero, Act.put, List.setIfInBounds_toArray, List.set_cons_zero, List.set_cons_succ]
          refine wpAnyH_take (i := 4) (v := ?v17) rfl (by kernel_rfl) (by kernel_rfl) (by kernel_rfl) (fun _ _ _ h => h) (Or.inl ⟨by rfl, ?y17⟩) (by assumption) ?r17
          case y17 => (intro w hSw; (try dsimp only at hSw); go_simp; try (with_reducible rfl))
          simp only [List.getElem_toArray, List.getElem_cons_succ, List.getElem_cons_zero, Act.put, List.setIfInBounds_toArray, List.set_cons_zero, List.set_cons_succ]
          refine wpAnyH_take (i := 5) (v := ?v18) rfl (by kernel_rfl) (by kernel_rfl) (by kernel_rfl) (fun _ _ _ h => h) (Or.inl ⟨by rfl, ?y18⟩) (by assumption) ?r18
          case y18 => (intro w hSw; (try dsimp only at hSw); go_simp; try (with_reducible rfl))
          simp only [List.getElem_toArray, List.getElem_cons_succ, List.getElem_cons_zero, Act.put, List.setIfInBounds_toArray, List.set_cons_zero, List.set_cons_succ]
          refine wpAnyH_take (i := 6) (v := ?v19) rfl (by kernel_rfl) (by kernel_rfl) (by kernel_rfl) (fun _ _ _ h => h) (Or.inl ⟨by rfl, ?y19⟩) (by assumption) ?r19
          case y19 => (intro w hSw; (try dsimp only at hSw); go_simp; try (with_reducible rfl))
          simp only [List.getElem_toArray, List.getElem_cons_succ, List.getElem_cons_zero, Act.put, List.setIfInBounds_toArray, List.set_cons_zero, List.set_cons_succ]
          refine wpAnyH_take (i := 7) (v := ?v20) rfl (by kernel_rfl) (by kernel_rfl) (by kernel_rfl) (fun _ _ _ h => h) (Or.inl ⟨by rfl, ?y20⟩) (by assumption) ?r20
          case y20 => (intro w hSw; (try dsimp only at hSw); go_simp; try (with_reducible rfl))
          simp only [List.getElem_toArray, List.getElem_cons_succ, List.getElem_cons_zero, Act.put, List.setIfInBounds_toArray, List.set_cons_zero, List.set_cons_succ]
          refine wpAnyH_take (i := 8) (v := ?v21) rfl (by kernel_rfl) (by kernel_rfl) (by kernel_rfl) (fun _ _ _ h => h) (Or.inl ⟨by rfl, ?y21⟩) (by assumption) ?r21
          case y21 => (intro w hSw; (try dsimp only at hSw); go_simp; try (with_reducible rfl))
          simp only [List.getElem_toArray, List.getElem_cons_succ, List.getElem_cons_zero, Act.put, List.setIfInBounds_toArray, List.set_cons_zero, List.set_cons_succ]
          refine wpAnyH_take (i := 9) (v := ?v22) rfl (by kernel_rfl) (by kernel_rfl) (by kernel_rfl) (fun _ _ _ h => h) (Or.inl ⟨by rfl, ?y22⟩) (by assumption) ?r22
          case y22 => (intro w hSw; (try dsimp only at hSw); go_simp; try (with_reducible rfl))
          simp only [List.getElem_toArray, List.getElem_cons_succ, List.getElem_cons_zero, Act.put, List.setIfInBounds_toArray, List.set_cons_zero, List.set_cons_succ]
          refine wpAnyH_ready (rs := [10]) (by kernel_rfl) (by simp) ?_
          refine AllReadyH.cons rfl (fun K hK => ?_) AllReadyH.nil
          simp only [List.getElem_toArray, List.getElem_cons_succ, List.getElem_cons_zero]
          go_simp
          go_at_call 90
          refine (CA.out _).mono ?_
          rintro e w2 ⟨rfl, hb1⟩
          dsimp only
          refine hK.out _ _ ?_ (fun hHeld => ?_)
          · exact ⟨(hb1.cell (p := ⟨cb, 0, none⟩) (blk_lt hHeld.1)).trans hHeld.1, (hb1.cell (p := ⟨cb, 1, none⟩) (blk_lt hHeld.2.1)).trans hHeld.2.1, (hb1.cell (p := ⟨cb, 2, none⟩) (blk_lt hHeld.2.2.1)).trans hHeld.2.2.1, (hb1.cell (p := ⟨cb, 3, none⟩) (blk_lt hHeld.2.2.2.1)).trans hHeld.2.2.2.1, (hb1.cell (p := ⟨cb, 4, none⟩) (blk_lt hHeld.2.2.2.2.1)).trans hHeld.2.2.2.2.1, (hb1.cell (p := ⟨w.heap.size, 0, none⟩) (blk_lt hHeld.2.2.2.2.2.1)).trans hHeld.2.2.2.2.2.1, (hb1.cell (p := ⟨w.heap.size, 1, none⟩) (blk_lt hHeld.2.2.2.2.2.2.1)).trans hHeld.2.2.2.2.2.2.1, (hb1.cell (p := ⟨w.heap.size, 2, none⟩) (blk_lt hHeld.2.2.2.2.2.2.2.1)).trans hHeld.2.2.2.2.2.2.2.1, (hb1.cell (p := ⟨w.heap.size, 3, none⟩) (blk_lt hHeld.2.2.2.2.2.2.2.2.1)).trans hHeld.2.2.2.2.2.2.2.2.1, (hb1.cell (p := ⟨w.heap.size, 4, none⟩) (blk_lt hHeld.2.2.2.2.2.2.2.2.2.1)).trans hHeld.2.2.2.2.2.2.2.2.2.1, (hb1.cell (p := ⟨cb, xn, none⟩) (blk_lt hHeld.2.2.2.2.2.2.2.2.2.2.1)).trans hHeld.2.2.2.2.2.2.2.2.2.2.1, (hb1.cell (p := ⟨w.heap.size, xn, none⟩) (blk_lt hHeld.2.2.2.2.2.2.2.2.2.2.2.1)).trans hHeld.2.2.2.2.2.2.2.2.2.2.2.1, hHeld.2.2.2.2.2.2.2.2.2.2.2.2.trans (hb1.mono hHeld.2.2.2.2.2.2.2.2.2.2.2.2.size)⟩
          clear hK K
          try simp only [Act.put, List.setIfInBounds_toArray, List.set_cons_zero, List.set_cons_succ]
          refine wpAnyH_take (i := 11) (v := ?v23) rfl (by kernel_rfl) (by kernel_rfl) (by kernel_rfl) (fun _ _ _ h => h) (Or.inl ⟨by rfl, ?y23⟩) (by assumption) ?r23
          case y23 => (intro w hSw; (try dsimp only at hSw); go_simp; try (with_reducible rfl))
          simp only [List.getElem_toArray, List.getElem_cons_succ, List.getElem_cons_zero, Act.put, List.setIfInBounds_toArray, List.set_cons_zero, List.set_cons_succ]
          refine wpAnyH_take (i := 12) (v := ?v24) rfl (by kernel_rfl) (by kernel_rfl) (by kernel_rfl) (fun _ _ _ h => h) (Or.inl ⟨by rfl, ?y24⟩) (by assumption) ?r24
          case y24 => (intro w hSw; (try dsimp only at hSw); go_simp; try (with_reducible rfl))
          simp only [List.getElem_toArray, List.getElem_cons_succ, List.getElem_cons_zero, Act.put, List.setIfInBounds_toArray, List.set_cons_zero, List.set_cons_succ]
          refine wpAnyH_done (by kernel_rfl) ?_ _
          have B3 := hide (HEND.out _ hHeld.2.2.2.2.2.2.2.2.2.2.2.2)
          clear hHeld
          go_wp2
          go_ret
          exact ⟨by rw [E.out]; rfl, B3.out⟩
      · have HJ2 := hide (HJJ.out.2 (fun h => absurd h hle))
        refine wp_region_held_drew (S := (fun wx => wx.cell? ⟨cb, 0, none⟩ = some (.int .i64 (M 0)) ∧ wx.cell? ⟨cb, 1, none⟩ = some (.int .i64 (M 1)) ∧ wx.cell? ⟨cb, 2, none⟩ = some (.int .i64 (M 2)) ∧ wx.cell? ⟨cb, 3, none⟩ = some (.int .i64 (M 3)) ∧ wx.cell? ⟨cb, 4, none⟩ = some (.int .i64 (M 4)) ∧ wx.cell? ⟨w.heap.size, 0, none⟩ = some (.int .i64 (U 0)) ∧ wx.cell? ⟨w.heap.size, 1, none⟩ = some (.int .i64 (U 1)) ∧ wx.cell? ⟨w.heap.size, 2, none⟩ = some (.int .i64 (U 2)) ∧ wx.cell? ⟨w.heap.size, 3, none⟩ = some (.int .i64 (U 3)) ∧ wx.cell? ⟨w.heap.size, 4, none⟩ = some (.int .i64 (U 4)) ∧ wx.cell? ⟨cb, xn, none⟩ = some (.int .i64 mc) ∧ wx.cell? ⟨w.heap.size, xn, none⟩ = some (.int .i64 mu) ∧ Below V.heap.size V wx)) (by kernel_rfl) ⟨m0, m1, m2, m3, m4, u0, u1, u2, u3, u4, mx, ux, (Below.refl _ _).drew⟩ (fun hHeld => ?_)
        refine wpAnyH_take (i := 0) (v := ?v25) rfl (by kernel_rfl) (by kernel_rfl) (by kernel_rfl) (fun _ _ _ h => h) (Or.inl ⟨by rfl, ?y25⟩) (by assumption) ?r25
        case y25 => (intro w hSw; (try dsimp only at hSw); go_simp; try (with_reducible rfl))
        simp only [List.getElem_toArray, List.getElem_cons_zero, Act.put, List.setIfInBounds_toArray, List.set_cons_zero, List.set_cons_succ]
        refine wpAnyH_take (i := 1) (v := ?v26) rfl (by kernel_rfl) (by kernel_rfl) (by kernel_rfl) (fun _ _ _ h => h) (Or.inl ⟨by rfl, ?y26⟩) (by assumption) ?r26
        case y26 => (intro w hSw; (try dsimp only at hSw); go_simp; try (with_reducible rfl))
        simp only [List.getElem_toArray, List.getElem_cons_succ, List.getElem_cons_zero, Act.put, List.setIfInBounds_toArray, List.set_cons_zero, List.set_cons_succ]
        refine wpAnyH_take (i := 2) (v := ?v27) rfl (by kernel_rfl) (by kernel_rfl) (by kernel_rfl) (fun _ _ _ h => h) (Or.inl ⟨by rfl, ?y27⟩) (by assumption) ?r27
        case y27 => (intro w hSw; (try dsimp only at hSw); go_simp; try (with_reducible rfl))
        simp only [List.getElem_toArray, List.getElem_cons_succ, List.getElem_cons_zero, Act.put, List.setIfInBounds_toArray, List.set_cons_zero, List.set_cons_succ]
        refine wpAnyH_take (i := 3) (v := ?v28) rfl (by kernel_rfl) (by kernel_rfl) (by kernel_rfl) (fun _ _ _ h => h) (Or.inl ⟨by rfl, ?y28⟩) (by assumption) ?r28
        case y28 => (intro w hSw; (try dsimp only at hSw); go_simp; try (with_reducible rfl))
        simp only [List.getElem_toArray, List.getElem_cons_succ, List.getElem_cons_zero, Act.put, List.setIfInBounds_toArray, List.set_cons_zero, List.set_cons_succ]
        refine wpAnyH_take (i := 4) (v := ?v29) rfl (by kernel_rfl) (by kernel_rfl) (by kernel_rfl) (fun _ _ _ h => h) (Or.inl ⟨by rfl, ?y29⟩) (by assumption) ?r29
        case y29 => (intro w hSw; (try dsimp only at hSw); go_simp; try (with_reducible rfl))
        simp only [List.getElem_toArray, List.getElem_cons_succ, List.getElem_cons_zero, Act.put, List.setIfInBounds_toArray, List.set_cons_zero, List.set_cons_succ]
        refine wpAnyH_take (i := 5) (v := ?v30) rfl (by kernel_rfl) (by kernel_rfl) (by kernel_rfl) (fun _ _ _ h => h) (Or.inl ⟨by rfl, ?y30⟩) (by assumption) ?r30
        case y30 => (intro w hSw; (try dsimp only at hSw); go_simp; try (with_reducible rfl))
        simp only [List.getElem_toArray, List.getElem_cons_succ, List.getElem_cons_zero, Act.put, List.setIfInBounds_toArray, List.set_cons_zero, List.set_cons_succ]
        refine wpAnyH_take (i := 6) (v := ?v31) rfl (by kernel_rfl) (by kernel_rfl) (by kernel_rfl) (fun _ _ _ h => h) (Or.inl ⟨by rfl, ?y31⟩) (by assumption) ?r31
        case y31 => (intro w hSw; (try dsimp only at hSw); go_simp; try (with_reducible rfl))
        simp only [List.getElem_toArray, List.getElem_cons_succ, List.getElem_cons_zero, Act.put, List.setIfInBounds_toArray, List.set_cons_zero, List.set_cons_succ]
        refine wpAnyH_take (i := 7) (v := ?v32) rfl (by kernel_rfl) (by kernel_rfl) (by kernel_rfl) (fun _ _ _ h => h) (Or.inl ⟨by rfl, ?y32⟩) (by assumption) ?r32
        case y32 => (intro w hSw; (try dsimp only at hSw); go_simp; try (with_reducible rfl))
        simp only [List.getElem_toArray, List.getElem_cons_succ, List.getElem_cons_zero, Act.put, List.setIfInBounds_toArray, List.set_cons_zero, List.set_cons_succ]
        refine wpAnyH_take (i := 8) (v := undef) rfl (by kernel_rfl) (by kernel_rfl) (by kernel_rfl) (fun _ _ _ h => h) (Or.inr ⟨by rfl, rfl⟩) (by assumption) ?_
        simp only [List.getElem_toArray, List.getElem_cons_succ, List.getElem_cons_zero, Act.put, List.setIfInBounds_toArray, List.set_cons_zero, List.set_cons_succ]
        refine wpAnyH_take (i := 9) (v := undef) rfl (by kernel_rfl) (by kernel_rfl) (by kernel_rfl) (fun _ _ _ h => h) (Or.inr ⟨by rfl, rfl⟩) (by assumption) ?_
        simp only [List.getElem_toArray, List.getElem_cons_succ, List.getElem_cons_zero, Act.put, List.setIfInBounds_toArray, List.set_cons_zero, List.set_cons_succ]
        refine wpAnyH_take (i := 10) (v := undef) rfl (by kernel_rfl) (by kernel_rfl) (by kernel_rfl) (fun _ _ _ h => h) (Or.inr ⟨by rfl, rfl⟩) (by assumption) ?_
        simp only [List.getElem_toArray, List.getElem_cons_succ, List.getElem_cons_zero, Act.put, List.setIfInBounds_toArray, List.set_cons_zero, List.set_cons_succ]
        refine wpAnyH_take (i := 11) (v := undef) rfl (by kernel_rfl) (by kernel_rfl) (by kernel_rfl) (fun _ _ _ h => h) (Or.inr ⟨by rfl, rfl⟩) (by assumption) ?_
        simp only [List.getElem_toArray, List.getElem_cons_succ, List.getElem_cons_zero, Act.put, List.setIfInBounds_toArray, List.set_cons_zero, List.set_cons_succ]
        refine wpAnyH_take (i := 12) (v := ?v37) rfl (by kernel_rfl) (by kernel_rfl) (by kernel_rfl) (fun _ _ _ h => h) (Or.inl ⟨by rfl, ?y37⟩) (by assumption) ?r37
        case y37 => (intro w hSw; (try dsimp only at hSw); go_simp; try (with_reducible rfl))
        simp only [List.getElem_toArray, List.getElem_cons_succ, List.getElem_cons_zero, Act.put, List.setIfInBounds_toArray, List.set_cons_zero, List.set_cons_succ]
        refine wpAnyH_done (by kernel_rfl) ?_ _
        have B3 := hide (HST.out _ hHeld.2.2.2.2.2.2.2.2.2.2.2.2)
        clear hHeld
        go_wp2
        go_roundw
        case rel => exact ⟨k + 1, by omega, by go_num, HJ2.out, B3.out⟩
        case measure => simp [intOf]; omega
    · have hltI : ¬ (k : Int) < (n : Int) := by omega
      have E : Hid (bb = true) := HBB.out.2 (fun j hj => HJ.out j (by omega))
      have B3 := hide (B1.out.trans (hbel.mono B1.out.size))
      clear hbel
      go_wp2
      go_ret
      exact ⟨by rw [E.out]; rfl, B3.out⟩
end Go.Proofs.Ytkfnejiiancmhad.L11

namespace Go.Proofs.Ytkfnejiiancmhad.L11
open Go.RowKit L1 Own
set_option linter.unusedVariables false

/-- The numbers of a list, by nodes. -/
def uI (us : List Int) : Int → Int := fun x => us.getD x.toNat 0
/-- A list may be a cut. -/
def CutOk (N : Int) (l : List Ev) (us : List Int) : Prop := (GoodV N l ∧ (us.length : Int) = N) ∧ ∀ i, i < us.length → 0 ≤ us.getD i 0 ∧ us.getD i 0 ≤ cnt l (i : Int) l.length
theorem cutOk_okC {N : Int} {l : List Ev} {us : List Int} (h : CutOk N l us) : OkC us := by
  obtain ⟨⟨h1, h2⟩, h3⟩ := h
  have h4 := h1.1
  have h5 := h1.2.1
  refine ⟨by omega, by omega, fun j hj => ?_⟩
  have h6 := h3 j hj
  have h7 := cnt_le l (j : Int) l.length
  have h8 := h1.2.2.1
  omega
theorem cutOk_iff {N : Int} {l : List Ev} {us : List Int} (h1 : GoodV N l) (h2 : (us.length : Int) = N) : CutOk N l us ↔ OkC us ∧ ∀ i, i < 5 → fnL us i ≤ cntE l l.length i := by
  constructor
  · intro h
    refine ⟨cutOk_okC h, fun i _ => ?_⟩
    by_cases hi : i < us.length
    · exact (h.2 i hi).2
    · have : fnL us i = 0 := by unfold fnL; rw [List.getD, List.getElem?_eq_none (by omega)]; rfl
      rw [this]; exact cnt_nn l _ _
  · rintro ⟨h3, h4⟩
    refine ⟨⟨h1, h2⟩, fun i hi => ⟨(h3.2.2 i hi).1, h4 i (by have := h1.2.1; omega)⟩⟩
theorem fnL_uI (us : List Int) (i : Nat) : fnL us i = uI us (i : Int) := by unfold fnL uI; rw [Int.toNat_natCast]
theorem uI_nn {N : Int} {l : List Ev} {us : List Int} (h : CutOk N l us) (i : Nat) (hi : i < 5) : 0 ≤ uI us (i : Int) := by
  rw [← fnL_uI]
  unfold fnL
  by_cases h2 : i < us.length
  · exact (h.2 i h2).1
  · rw [List.getD, List.getElem?_eq_none (by omega)]; exact Int.le_refl _
set_option maxRecDepth 100000 in
set_option maxHeartbeats 4000000 in
theorem isCut_any (N : Int) (a u : Option Addr) (l : List (Int × Int)) (us : List Int) (n k cap ucap : Nat) (w : World) (hn : l.length = n) (hk : us.length = k) (hs : Sl2 w a l) (hu : Sl w u us) (hn2 : n ≤ 1048576) (hk2 : k ≤ 1048576) (c r : Bool) (hc : c = true ↔ CutOk N l us) (hr : r = true ↔ CutOk N l us ∧ ClS l (uI us)) :
    Calls Try.prog 46 #[.int .i64 N, .slice a n cap, .slice u k ucap] w fun e w' => e = .returned (.tuple #[.bool r, .bool c]) ∧ Below w.heap.size w w' := by
  have hrc : c = false → r = false := fun e => by
    subst e
    cases r with
    | false => rfl
    | true => exact absurd (hc.2 (hr.1 rfl).1) (by simp)
  by_cases hg : GoodV N l
  case neg =>
    have CG := hide (fun w hs => goodEvents_any N a l n cap w hn hs hn2 false (by simp [hg]))
    obtain rfl : c = false := by
      cases c with
      | false => rfl
      | true => exact absurd (hc.1 rfl) (fun h => hg h.1.1)
    obtain rfl := hrc rfl
    have HS := hide hs
    clear hg hc hr hrc hs hu hn hk
    go_enter Try.func46, Try.ntmps46
    go_wp2_with fail
    refine (CG.out _ HS.out).mono ?_
    rintro e w1 ⟨rfl, hb1⟩
    have B1 := hide hb1
    clear hb1
    go_wp2
    go_ret2
    exact ⟨rfl, B1.out⟩
  have CG := hide (fun w hs => goodEvents_any N a l n cap w hn hs hn2 true (by simp [hg]))
  by_cases hkN : (k : Int) = N
  case neg =>
    obtain rfl : c = false := by
      cases c with
      | false => rfl
      | true => exact absurd (hc.1 rfl) (fun h => hkN (by rw [← hk]; exact h.1.2))
    obtain rfl := hrc rfl
    have hkb : ((k : Int) != N) = true := by simp [hkN]
    have HS := hide hs
    clear hg hc hr hrc hs hu hn hk hkN
    go_enter Try.func46, Try.ntmps46
    go_wp2_with fail
    refine (CG.out _ HS.out).mono ?_
    rintro e w1 ⟨rfl, hb1⟩
    have B1 := hide hb1
    clear hb1
    go_wp2
    go_ret2
    exact ⟨rfl, B1.out⟩
  have hkb : ((k : Int) != N) = false := by simp [hkN]
  have hiff := cutOk_iff (us := us) hg (by rw [hk]; exact hkN)
  obtain ⟨bo, hbo⟩ : ∃ bo : Bool, bo = true ↔ OkC us := by
    by_cases h : OkC us
    · exact ⟨true, by simp [h]⟩
    · exact ⟨false, by simp [h]⟩
  obtain ⟨X, hX⟩ : ∃ X : Nat → Int, X = if bo then fnL us else fun _ => 0 := ⟨_, rfl⟩
  have CR := hide (fun w hs => readClock_any u us k ucap w hk hs hk2 bo hbo X hX)
  cases bo with
  | false =>
    obtain rfl : c = false := by
      cases c with
      | false => rfl
      | true => exact absurd (hc.1 rfl) (fun h => absurd (hbo.2 (hiff.1 h).1) (by simp))
    obtain rfl := hrc rfl
    have HS := hide hs
    have HU := hide hu
    clear hg hc hr hrc hs hu hn hk hkN hiff hbo hX
    go_enter Try.func46, Try.ntmps46
    go_wp2_with fail
    refine (CG.out _ HS.out).mono ?_
    rintro e w1 ⟨rfl, hb1⟩
    have B1 := hide hb1
    clear hb1
    go_wp2_with fail
    refine (CR.out _ (HU.out.below B1.out)).mono ?_
    rintro e w2 ⟨rfl, hb2⟩
    have B2 := hide (B1.out.trans (hb2.mono B1.out.size))
    clear hb2
    go_upto_region 4 with fail
    obtain ⟨V, hV⟩ : ∃ V, w2.alloc (.cells #[.int .i64 (X 0), .int .i64 (X 1), .int .i64 (X 2), .int .i64 (X 3), .int .i64 (X 4)] 112) = V := ⟨_, rfl⟩
    have HX : Hid (Clk V w.heap.size w2.heap.size X) := by rw [← hV]; exact hide (clk_new w2 _ _ rfl B2.out.size X)
    have BV : Hid (Below w.heap.size w V) := by rw [← hV]; exact hide (B2.out.alloc B2.out.size _)
    rw [hV]
    obtain ⟨cb, hcb⟩ : ∃ cb, cb = w2.heap.size := ⟨_, rfl⟩
    rw [← hcb] at HX ⊢
    clear hV hcb
    have x0 := HX.out.cell 0 (by omega)
    have x1 := HX.out.cell 1 (by omega)
    have x2 := HX.out.cell 2 (by omega)
    have x3 := HX.out.cell 3 (by omega)
    have x4 := HX.out.cell 4 (by omega)
    refine wp_region_held_drew (S := (fun wx => wx.cell? ⟨cb, 0, none⟩ = some (.int .i64 (X 0)) ∧ wx.cell? ⟨cb, 1, none⟩ = some (.int .i64 (X 1)) ∧ wx.cell? ⟨cb, 2, none⟩ = some (.int .i64 (X 2)) ∧ wx.cell? ⟨cb, 3, none⟩ = some (.int .i64 (X 3)) ∧ wx.cell? ⟨cb, 4, none⟩ = some (.int .i64 (X 4)) ∧ Below V.heap.size V wx)) (by kernel_rfl) ⟨x0, x1, x2, x3, x4, (Below.refl _ _).drew⟩ (fun hHeld => ?_)
    refine wpAnyH_take (i := 0) (v := ?v1) rfl (by kernel_rfl) (by kernel_rfl) (by kernel_rfl) (fun _ _ _ h => h) (Or.inl ⟨by rfl, ?y1⟩) (by assumption) ?r1
    case y1 => (intro w hSw; (try dsimp only at hSw); go_simp; try (with_reducible rfl))
    simp only [List.getElem_toArray, List.getElem_cons_zero, Act.put, List.setIfInBounds_toArray, List.set_cons_zero, List.set_cons_succ]
    refine wpAnyH_take (i := 1) (v := ?v2) rfl (by kernel_rfl) (by kernel_rfl) (by kernel_rfl) (fun _ _ _ h => h) (Or.inl ⟨by rfl, ?y2⟩) (by assumption) ?r2
    case y2 => (intro w hSw; (try dsimp only at hSw); go_simp; try (with_reducible rfl))
    simp only [List.getElem_toArray, List.getElem_cons_succ, List.getElem_cons_zero, Act.put, List.setIfInBounds_toArray, List.set_cons_zero, List.set_cons_succ]
    refine wpAnyH_take (i := 2) (v := ?v3) rfl (by kernel_rfl) (by kernel_rfl) (by kernel_rfl) (fun _ _ _ h => h) (Or.inl ⟨by rfl, ?y3⟩) (by assumption) ?r3
    case y3 => (intro w hSw; (try dsimp only at hSw); go_simp; try (with_reducible rfl))
    simp only [List.getElem_toArray, List.getElem_cons_succ, List.getElem_cons_zero, Act.put, List.setIfInBounds_toArray, List.set_cons_zero, List.set_cons_succ]
    refine wpAnyH_take (i := 3) (v := undef) rfl (by kernel_rfl) (by kernel_rfl) (by kernel_rfl) (fun _ _ _ h => h) (Or.inr ⟨by rfl, rfl⟩) (by assumption) ?_
    simp only [List.getElem_toArray, List.getElem_cons_succ, List.getElem_cons_zero, Act.put, List.setIfInBounds_toArray, List.set_cons_zero, List.set_cons_succ]
    refine wpAnyH_take (i := 4) (v := undef) rfl (by kernel_rfl) (by kernel_rfl) (by kernel_rfl) (fun _ _ _ h => h) (Or.inr ⟨by rfl, rfl⟩) (by assumption) ?_
    simp only [List.getElem_toArray, List.getElem_cons_succ, List.getElem_cons_zero, Act.put, List.setIfInBounds_toArray, List.set_cons_zero, List.set_cons_succ]
    refine wpAnyH_take (i := 5) (v := undef) rfl (by kernel_rfl) (by kernel_rfl) (by kernel_rfl) (fun _ _ _ h => h) (Or.inr ⟨by rfl, rfl⟩) (by assumption) ?_
    simp only [List.getElem_toArray, List.getElem_cons_succ, List.getElem_cons_zero, Act.put, List.setIfInBounds_toArray, List.set_cons_zero, List.set_cons_succ]
    refine wpAnyH_take (i := 6) (v := undef) rfl (by kernel_rfl) (by kernel_rfl) (by kernel_rfl) (fun _ _ _ h => h) (Or.inr ⟨by rfl, rfl⟩) (by assumption) ?_
    simp only [List.getElem_toArray, List.getElem_cons_succ, List.getElem_cons_zero, Act.put, List.setIfInBounds_toArray, List.set_cons_zero, List.set_cons_succ]
    refine wpAnyH_take (i := 7) (v := undef) rfl (by kernel_rfl) (by kernel_rfl) (by kernel_rfl) (fun _ _ _ h => h) (Or.inr ⟨by rfl, rfl⟩) (by assumption) ?_
    simp only [List.getElem_toArray, List.getElem_cons_succ, List.getElem_cons_zero, Act.put, List.setIfInBounds_toArray, List.set_cons_zero, List.set_cons_succ]
    refine wpAnyH_take (i := 8) (v := ?v9) rfl (by kernel_rfl) (by kernel_rfl) (by kernel_rfl) (fun _ _ _ h => h) (Or.inl ⟨by rfl, ?y9⟩) (by assumption) ?r9
    case y9 => (intro w hSw; (try dsimp only at hSw); go_simp; try (with_reducible rfl))
    simp only [List.getElem_toArray, List.getElem_cons_succ, List.getElem_cons_zero, Act.put, List.setIfInBounds_toArray, List.set_cons_zero, List.set_cons_succ]
    refine wpAnyH_done (by kernel_rfl) ?_ _
    have B3 := hide (BV.out.trans (hHeld.2.2.2.2.2.mono BV.out.size))
    clear hHeld
    go_wp2
    go_ret2
    exact ⟨rfl, B3.out⟩
  | true =>
    have hXe : X = fnL us := by rw [hX]; rfl
    obtain ⟨am, ham⟩ : ∃ am : Bool, am = true ↔ ∀ i, i < 5 → X i ≤ cntE l n i := by
      by_cases h : ∀ i, i < 5 → X i ≤ cntE l n i
      · exact ⟨true, by simpa using h⟩
      · exact ⟨false, by simpa using h⟩
    have CA := hide (fun w => isAtMost_any X (cntE l n) w am ham)
    have CC := hide (fun w hs => countEvents_any N a l n cap w hn hs hg)
    have hiff2 : CutOk N l us ↔ am = true := by
      rw [hiff, ham, hXe, ← hn]
      exact ⟨fun h => h.2, fun h => ⟨hbo.1 rfl, h⟩⟩
    cases am with
    | false =>
      obtain rfl : c = false := by
        cases c with
        | false => rfl
        | true => exact absurd (hc.1 rfl) (fun h => absurd (hiff2.1 h) (by simp))
      obtain rfl := hrc rfl
      have HS := hide hs
      have HU := hide hu
      clear hg hc hr hrc hs hu hn hk hkN hiff hiff2 hbo hX hXe ham
      go_enter Try.func46, Try.ntmps46
      go_wp2_with fail
      refine (CG.out _ HS.out).mono ?_
      rintro e w1 ⟨rfl, hb1⟩
      have B1 := hide hb1
      clear hb1
      go_wp2_with fail
      refine (CR.out _ (HU.out.below B1.out)).mono ?_
      rintro e w2 ⟨rfl, hb2⟩
      have B2 := hide (B1.out.trans (hb2.mono B1.out.size))
      clear hb2
      go_upto_region 4 with fail
      obtain ⟨V, hV⟩ : ∃ V, w2.alloc (.cells #[.int .i64 (X 0), .int .i64 (X 1), .int .i64 (X 2), .int .i64 (X 3), .int .i64 (X 4)] 112) = V := ⟨_, rfl⟩
      have HX : Hid (Clk V w.heap.size w2.heap.size X) := by rw [← hV]; exact hide (clk_new w2 _ _ rfl B2.out.size X)
      have BV : Hid (Below w.heap.size w V) := by rw [← hV]; exact hide (B2.out.alloc B2.out.size _)
      rw [hV]
      obtain ⟨cb, hcb⟩ : ∃ cb, cb = w2.heap.size := ⟨_, rfl⟩
      rw [← hcb] at HX ⊢
      clear hV hcb
      have x0 := HX.out.cell 0 (by omega)
      have x1 := HX.out.cell 1 (by omega)
      have x2 := HX.out.cell 2 (by omega)
      have x3 := HX.out.cell 3 (by omega)
      have x4 := HX.out.cell 4 (by omega)
      have CC2 : Hid (∀ wx, Below V.heap.size V wx → Calls Try.prog 91 #[.slice a n cap] wx fun e w' => e = .returned (cv (cntE l n)) ∧ Below wx.heap.size wx w') := hide (fun wx hb => CC.out wx (HS.out.below (BV.out.trans (hb.mono BV.out.size))))
      refine wp_region_held_drew (S := (fun wx => wx.cell? ⟨cb, 0, none⟩ = some (.int .i64 (X 0)) ∧ wx.cell? ⟨cb, 1, none⟩ = some (.int .i64 (X 1)) ∧ wx.cell? ⟨cb, 2, none⟩ = some (.int .i64 (X 2)) ∧ wx.cell? ⟨cb, 3, none⟩ = some (.int .i64 (X 3)) ∧ wx.cell? ⟨cb, 4, none⟩ = some (.int .i64 (X 4)) ∧ Below V.heap.size V wx)) (by kernel_rfl) ⟨x0, x1, x2, x3, x4, (Below.refl _ _).drew⟩ (fun hHeld => ?_)
      refine wpAnyH_take (i := 0) (v := ?v10) rfl (by kernel_rfl) (by kernel_rfl) (by kernel_rfl) (fun _ _ _ h => h) (Or.inl ⟨by rfl, ?y10⟩) (by assumption) ?r10
      case y10 => (intro w hSw; (try dsimp only at hSw); go_simp; try (with_reducible rfl))
      simp only [List.getElem_toArray, List.getElem_cons_zero, Act.put, List.setIfInBounds_toArray, List.set_cons_zero, List.set_cons_succ]
      refine wpAnyH_take (i := 1) (v := ?v11) rfl (by kernel_rfl) (by kernel_rfl) (by kernel_rfl) (fun _ _ _ h => h) (Or.inl ⟨by rfl, ?y11⟩) (by assumption) ?r11
      case y11 => (intro w hSw; (try dsimp only at hSw); go_simp; try (with_reducible rfl))
      simp only [List.getElem_toArray, List.getElem_cons_succ, List.getElem_cons_zero, Act.put, List.setIfInBounds_toArray, List.set_cons_zero, List.set_cons_succ]
      refine wpAnyH_take (i := 2) (v := ?v12) rfl (by kernel_rfl) (by kernel_rfl) (by kernel_rfl) (fun _ _ _ h => h) (Or.inl ⟨by rfl, ?y12⟩) (by assumption) ?r12
      case y12 => (intro w hSw; (try dsimp only at hSw); go_simp; try (with_reducible rfl))
      simp only [List.getElem_toArray, List.getElem_cons_succ, List.getElem_cons_zero, Act.put, List.setIfInBounds_toArray, List.set_cons_zero, List.set_cons_succ]
      refine wpAnyH_take (i := 3) (v := ?v13) rfl (by kernel_rfl) (by kernel_rfl) (by kernel_rfl) (fun _ _ _ h => h) (Or.inl ⟨by rfl, ?y13⟩) (by assumption) ?r13
      case y13 => (intro w hSw; (try dsimp only at hSw); go_simp; try (with_reducible rfl))
      simp only [List.getElem_toArray, List.getElem_cons_succ, List.getElem_cons_zero, Act.put, List.setIfInBounds_toArray, List.set_cons_zero, List.set_cons_succ]
      refine wpAnyH_take (i := 4) (v := ?v14) rfl (by kernel_rfl) (by kernel_rfl) (by kernel_rfl) (fun _ _ _ h => h) (Or.inl ⟨by rfl, ?y14⟩) (by assumption) ?r14
      case y14 => (intro w hSw; (try dsimp only at hSw); go_simp; try (with_reducible rfl))
      simp only [List.getElem_toArray, List.getElem_cons_succ, List.getElem_cons_zero, Act.put, List.setIfInBounds_toArray, List.set_cons_zero, List.set_cons_succ]
      refine wpAnyH_ready (rs := [5]) (by kernel_rfl) (by simp) ?_
      refine AllReadyH.cons rfl (fun K hK => ?_) AllReadyH.nil
      simp only [List.getElem_toArray, List.getElem_cons_succ, List.getElem_cons_zero]
      go_simp
      go_at_call 91
      refine (CC2.out _ hHeld.2.2.2.2.2).mono ?_
      rintro e w3 ⟨rfl, hb1⟩
      dsimp only
      refine hK.out _ _ ?_ (fun hHeld => ?_)
      · exact ⟨(hb1.cell (p := ⟨cb, 0, none⟩) (blk_lt hHeld.1)).trans hHeld.1, (hb1.cell (p := ⟨cb, 1, none⟩) (blk_lt hHeld.2.1)).trans hHeld.2.1, (hb1.cell (p := ⟨cb, 2, none⟩) (blk_lt hHeld.2.2.1)).trans hHeld.2.2.1, (hb1.cell (p := ⟨cb, 3, none⟩) (blk_lt hHeld.2.2.2.1)).trans hHeld.2.2.2.1, (hb1.cell (p := ⟨cb, 4, none⟩) (blk_lt hHeld.2.2.2.2.1)).trans hHeld.2.2.2.2.1, hHeld.2.2.2.2.2.trans (hb1.mono hHeld.2.2.2.2.2.size)⟩
      clear hK K
      try simp only [Act.put, List.setIfInBounds_toArray, List.set_cons_zero, List.set_cons_succ]
      refine wpAnyH_ready (rs := [6]) (by kernel_rfl) (by simp) ?_
      refine AllReadyH.cons rfl (fun K hK => ?_) AllReadyH.nil
      simp only [List.getElem_toArray, List.getElem_cons_succ, List.getElem_cons_zero]
      go_simp
      go_at_call 90
      refine (CA.out _).mono ?_
      rintro e w3 ⟨rfl, hb1⟩
      dsimp only
      refine hK.out _ _ ?_ (fun hHeld => ?_)
      · exact ⟨(hb1.cell (p := ⟨cb, 0, none⟩) (blk_lt hHeld.1)).trans hHeld.1, (hb1.cell (p := ⟨cb, 1, none⟩) (blk_lt hHeld.2.1)).trans hHeld.2.1, (hb1.cell (p := ⟨cb, 2, none⟩) (blk_lt hHeld.2.2.1)).trans hHeld.2.2.1, (hb1.cell (p := ⟨cb, 3, none⟩) (blk_lt hHeld.2.2.2.1)).trans hHeld.2.2.2.1, (hb1.cell (p := ⟨cb, 4, none⟩) (blk_lt hHeld.2.2.2.2.1)).trans hHeld.2.2.2.2.1, hHeld.2.2.2.2.2.trans (hb1.mono hHeld.2.2.2.2.2.size)⟩
      clear hK K
      try simp only [Act.put, List.setIfInBounds_toArray, List.set_cons_zero, List.set_cons_succ]
      refine wpAnyH_take (i := 7) (v := ?v15) rfl (by kernel_rfl) (by kernel_rfl) (by kernel_rfl) (fun _ _ _ h => h) (Or.inl ⟨by rfl, ?y15⟩) (by assumption) ?r15
      case y15 => (intro w hSw; (try dsimp only at hSw); go_simp; try (with_reducible rfl))
      simp only [List.getElem_toArray, List.getElem_cons_succ, List.getElem_cons_zero, Act.put, List.setIfInBounds_toArray, List.set_cons_zero, List.set_cons_succ]
      refine wpAnyH_take (i := 8) (v := ?v16) rfl (by kernel_rfl) (by kernel_rfl) (by kernel_rfl) (fun _ _ _ h => h) (Or.inl ⟨by rfl, ?y16⟩) (by assumption) ?r16
      case y16 => (intro w hSw; (try dsimp only at hSw); go_simp; try (with_reducible rfl))
      simp only [List.getElem_toArray, List.getElem_cons_succ, List.getElem_cons_zero, Act.put, List.setIfInBounds_toArray, List.set_cons_zero, List.set_cons_succ]
      refine wpAnyH_done (by kernel_rfl) ?_ _
      have B3 := hide (BV.out.trans (hHeld.2.2.2.2.2.mono BV.out.size))
      clear hHeld
      go_wp2
      go_ret2
      exact ⟨rfl, B3.out⟩
    | true =>
      have hok : CutOk N l us := hiff2.2 rfl
      obtain rfl : c = true := hc.2 hok
      have CK := hide (fun w hs => isClosed_any N a l n cap X w hn hs hg r (by
        rw [hr]
        refine Iff.trans ⟨fun h => h.2, fun h => ⟨hok, h⟩⟩ ?_
        rw [← cl_iff hg (uI us) (uI_nn hok)]
        unfold ClI
        rw [hn]
        constructor
        · intro h q hq hc2 i hi
          have e : ((nd l q).toNat : Int) = nd l q := by have := (hg.2.2.2 q (by omega)).1; omega
          have := h q hq (by rw [← e, ← fnL_uI, ← hXe, e]; exact hc2) i hi
          rw [← fnL_uI, ← hXe] at this
          exact this
        · intro h q hq hc2 i hi
          have e : ((nd l q).toNat : Int) = nd l q := by have := (hg.2.2.2 q (by omega)).1; omega
          rw [← fnL_uI, ← hXe]
          refine h q hq ?_ i hi
          rw [← e, ← fnL_uI, ← hXe, e] at hc2
          exact hc2))
      have HS := hide hs
      have HU := hide hu
      clear hg hc hr hrc hs hu hn hk hkN hiff hiff2 hbo hX hXe ham hok
      go_enter Try.func46, Try.ntmps46
      go_wp2_with fail
      refine (CG.out _ HS.out).mono ?_
      rintro e w1 ⟨rfl, hb1⟩
      have B1 := hide hb1
      clear hb1
      go_wp2_with fail
      refine (CR.out _ (HU.out.below B1.out)).mono ?_
      rintro e w2 ⟨rfl, hb2⟩
      have B2 := hide (B1.out.trans (hb2.mono B1.out.size))
      clear hb2
      go_upto_region 4 with fail
      obtain ⟨V, hV⟩ : ∃ V, w2.alloc (.cells #[.int .i64 (X 0), .int .i64 (X 1), .int .i64 (X 2), .int .i64 (X 3), .int .i64 (X 4)] 112) = V := ⟨_, rfl⟩
      have HX : Hid (Clk V w.heap.size w2.heap.size X) := by rw [← hV]; exact hide (clk_new w2 _ _ rfl B2.out.size X)
      have BV : Hid (Below w.heap.size w V) := by rw [← hV]; exact hide (B2.out.alloc B2.out.size _)
      rw [hV]
      obtain ⟨cb, hcb⟩ : ∃ cb, cb = w2.heap.size := ⟨_, rfl⟩
      rw [← hcb] at HX ⊢
      clear hV hcb
      have x0 := HX.out.cell 0 (by omega)
      have x1 := HX.out.cell 1 (by omega)
      have x2 := HX.out.cell 2 (by omega)
      have x3 := HX.out.cell 3 (by omega)
      have x4 := HX.out.cell 4 (by omega)
      have CC2 : Hid (∀ wx, Below V.heap.size V wx → Calls Try.prog 91 #[.slice a n cap] wx fun e w' => e = .returned (cv (cntE l n)) ∧ Below wx.heap.size wx w') := hide (fun wx hb => CC.out wx (HS.out.below (BV.out.trans (hb.mono BV.out.size))))
      refine wp_region_held_drew (S := (fun wx => wx.cell? ⟨cb, 0, none⟩ = some (.int .i64 (X 0)) ∧ wx.cell? ⟨cb, 1, none⟩ = some (.int .i64 (X 1)) ∧ wx.cell? ⟨cb, 2, none⟩ = some (.int .i64 (X 2)) ∧ wx.cell? ⟨cb, 3, none⟩ = some (.int .i64 (X 3)) ∧ wx.cell? ⟨cb, 4, none⟩ = some (.int .i64 (X 4)) ∧ Below V.heap.size V wx)) (by kernel_rfl) ⟨x0, x1, x2, x3, x4, (Below.refl _ _).drew⟩ (fun hHeld => ?_)
      refine wpAnyH_take (i := 0) (v := ?v17) rfl (by kernel_rfl) (by kernel_rfl) (by kernel_rfl) (fun _ _ _ h => h) (Or.inl ⟨by rfl, ?y17⟩) (by assumption) ?r17
      case y17 => (intro w hSw; (try dsimp only at hSw); go_simp; try (with_reducible rfl))
      simp only [List.getElem_toArray, List.getElem_cons_zero, Act.put, List.setIfInBounds_toArray, List.set_cons_zero, List.set_cons_succ]
      refine wpAnyH_take (i := 1) (v := ?v18) rfl (by kernel_rfl) (by kernel_rfl) (by kernel_rfl) (fun _ _ _ h => h) (Or.inl ⟨by rfl, ?y18⟩) (by assumption) ?r18
      case y18 => (intro w hSw; (try dsimp only at hSw); go_simp; try (with_reducible rfl))
      simp only [List.getElem_toArray, List.getElem_cons_succ, List.getElem_cons_zero, Act.put, List.setIfInBounds_toArray, List.set_cons_zero, List.set_cons_succ]
      refine wpAnyH_take (i := 2) (v := ?v19) rfl (by kernel_rfl) (by kernel_rfl) (by kernel_rfl) (fun _ _ _ h => h) (Or.inl ⟨by rfl, ?y19⟩) (by assumption) ?r19
      case y19 => (intro w hSw; (try dsimp only at hSw); go_simp; try (with_reducible rfl))
      simp only [List.getElem_toArray, List.getElem_cons_succ, List.getElem_cons_zero, Act.put, List.setIfInBounds_toArray, List.set_cons_zero, List.set_cons_succ]
      refine wpAnyH_take (i := 3) (v := ?v20) rfl (by kernel_rfl) (by kernel_rfl) (by kernel_rfl) (fun _ _ _ h => h) (Or.inl ⟨by rfl, ?y20⟩) (by assumption) ?r20
      case y20 => (intro w hSw; (try dsimp only at hSw); go_simp; try (with_reducible rfl))
      simp only [List.getElem_toArray, List.getElem_cons_succ, List.getElem_cons_zero, Act.put, List.setIfInBounds_toArray, List.set_cons_zero, List.set_cons_succ]
      refine wpAnyH_take (i := 4) (v := ?v21) rfl (by kernel_rfl) (by kernel_rfl) (by kernel_rfl) (fun _ _ _ h => h) (Or.inl ⟨by rfl, ?y21⟩) (by assumption) ?r21
      case y21 => (intro w hSw; (try dsimp only at hSw); go_simp; try (with_reducible rfl))
      simp only [List.getElem_toArray, List.getElem_cons_succ, List.getElem_cons_zero, Act.put, List.setIfInBounds_toArray, List.set_cons_zero, List.set_cons_succ]
      refine wpAnyH_ready (rs := [5]) (by kernel_rfl) (by simp) ?_
      refine AllReadyH.cons rfl (fun K hK => ?_) AllReadyH.nil
      simp only [List.getElem_toArray, List.getElem_cons_succ, List.getElem_cons_zero]
      go_simp
      go_at_call 91
      refine (CC2.out _ hHeld.2.2.2.2.2).mono ?_
      rintro e w3 ⟨rfl, hb1⟩
      dsimp only
      refine hK.out _ _ ?_ (fun hHeld => ?_)
      · exact ⟨(hb1.cell (p := ⟨cb, 0, none⟩) (blk_lt hHeld.1)).trans hHeld.1, (hb1.cell (p := ⟨cb, 1, none⟩) (blk_lt hHeld.2.1)).trans hHeld.2.1, (hb1.cell (p := ⟨cb, 2, none⟩) (blk_lt hHeld.2.2.1)).trans hHeld.2.2.1, (hb1.cell (p := ⟨cb, 3, none⟩) (blk_lt hHeld.2.2.2.1)).trans hHeld.2.2.2.1, (hb1.cell (p := ⟨cb, 4, none⟩) (blk_lt hHeld.2.2.2.2.1)).trans hHeld.2.2.2.2.1, hHeld.2.2.2.2.2.trans (hb1.mono hHeld.2.2.2.2.2.size)⟩
      clear hK K
      try simp only [Act.put, List.setIfInBounds_toArray, List.set_cons_zero, List.set_cons_succ]
      refine wpAnyH_ready (rs := [6]) (by kernel_rfl) (by simp) ?_
      refine AllReadyH.cons rfl (fun K hK => ?_) AllReadyH.nil
      simp only [List.getElem_toArray, List.getElem_cons_succ, List.getElem_cons_zero]
      go_simp
      go_at_call 90
      refine (CA.out _).mono ?_
      rintro e w3 ⟨rfl, hb1⟩
      dsimp only
      refine hK.out _ _ ?_ (fun hHeld => ?_)
      · exact ⟨(hb1.cell (p := ⟨cb, 0, none⟩) (blk_lt hHeld.1)).trans hHeld.1, (hb1.cell (p := ⟨cb, 1, none⟩) (blk_lt hHeld.2.1)).trans hHeld.2.1, (hb1.cell (p := ⟨cb, 2, none⟩) (blk_lt hHeld.2.2.1)).trans hHeld.2.2.1, (hb1.cell (p := ⟨cb, 3, none⟩) (blk_lt hHeld.2.2.2.1)).trans hHeld.2.2.2.1, (hb1.cell (p := ⟨cb, 4, none⟩) (blk_lt hHeld.2.2.2.2.1)).trans hHeld.2.2.2.2.1, hHeld.2.2.2.2.2.trans (hb1.mono hHeld.2.2.2.2.2.size)⟩
      clear hK K
      try simp only [Act.put, List.setIfInBounds_toArray, List.set_cons_zero, List.set_cons_succ]
      refine wpAnyH_take (i := 7) (v := ?v22) rfl (by kernel_rfl) (by kernel_rfl) (by kernel_rfl) (fun _ _ _ h => h) (Or.inl ⟨by rfl, ?y22⟩) (by assumption) ?r22
      case y22 => (intro w hSw; (try dsimp only at hSw); go_simp; try (with_reducible rfl))
      simp only [List.getElem_toArray, List.getElem_cons_succ, List.getElem_cons_zero, Act.put, List.setIfInBounds_toArray, List.set_cons_zero, List.set_cons_succ]
      refine wpAnyH_take (i := 8) (v := ?v23) rfl (by kernel_rfl) (by kernel_rfl) (by kernel_rfl) (fun _ _ _ h => h) (Or.inl ⟨by rfl, ?y23⟩) (by assumption) ?r23
      case y23 => (intro w hSw; (try dsimp only at hSw); go_simp; try (with_reducible rfl))
      simp only [List.getElem_toArray, List.getElem_cons_succ, List.getElem_cons_zero, Act.put, List.setIfInBounds_toArray, List.set_cons_zero, List.set_cons_succ]
      refine wpAnyH_done (by kernel_rfl) ?_ _
      have B3 := hide (BV.out.trans (hHeld.2.2.2.2.2.mono BV.out.size))
      obtain ⟨y0, y1, y2, y3, y4, _⟩ := hHeld
      go_wp2_with fail
      refine (CK.out _ (HS.out.below B3.out)).mono ?_
      rintro e w5 ⟨rfl, hb5⟩
      have B5 := hide (B3.out.trans (hb5.mono B3.out.size))
      clear hb5
      go_wp2
      go_ret2
      exact ⟨rfl, B5.out⟩
end Go.Proofs.Ytkfnejiiancmhad.L11

namespace Go.Proofs.Ytkfnejiiancmhad.Own
open Go.RowKit L1
set_option linter.unusedVariables false

theorem bool_noT {b : Bool} {p : Prop} (h : b = true ↔ p) (hp : ¬ p) : b = false := by
  cases b with
  | false => rfl
  | true => exact absurd (h.1 rfl) hp
set_option maxRecDepth 100000 in
set_option maxHeartbeats 400000 in
theorem l1In_any (x lo hi : Int) (w : World) (b : Bool) (hb : b = true ↔ lo ≤ x ∧ x ≤ hi) :
    Calls Try.prog 66 #[.int .i64 x, .int .i64 lo, .int .i64 hi] w fun e w' => e = .returned (.bool b) ∧ w = w' := by
  by_cases h1 : lo ≤ x
  · by_cases h2 : x ≤ hi
    · obtain rfl : b = true := hb.2 ⟨h1, h2⟩
      clear hb
      go_enter Try.func66, Try.ntmps66
      go_wp2
      go_ret
      exact ⟨rfl, rfl⟩
    · obtain rfl : b = false := bool_noT hb (fun h => h2 h.2)
      clear hb
      go_enter Try.func66, Try.ntmps66
      go_wp2
      go_ret
      exact ⟨rfl, rfl⟩
  · obtain rfl : b = false := bool_noT hb (fun h => h1 h.1)
    clear hb
    go_enter Try.func66, Try.ntmps66
    go_wp2
    go_ret
    exact ⟨rfl, rfl⟩

end Go.Proofs.Ytkfnejiiancmhad.Own

namespace Go.Proofs.Ytkfnejiiancmhad.L11
open Go.RowKit L1 Own
set_option linter.unusedVariables false

set_option maxRecDepth 100000 in
set_option maxHeartbeats 4000000 in
theorem l11Upto_any (N : Nat) (a u : Option Addr) (l : List (Int × Int)) (us : List Int) (n k cap ucap : Nat) (w : World) (hn : l.length = n) (hk : us.length = k) (hs : Sl2 w a l) (hu : Sl w u us) (hk2 : k ≤ 1048576) (hg : GoodV (N : Int) l) (c : Bool) (hc : c = true ↔ CutOk (N : Int) l us) :
    Calls Try.prog 94 #[.int .i64 N, .slice a n cap, .slice u k ucap] w fun e w' => e = .returned (.bool c) ∧ Below w.heap.size w w' := by
  have h40 : n ≤ 40 := by have := hg.2.2.1; omega
  have hN1 : 1 ≤ N := by have := hg.1; omega
  have hN5 : N ≤ 5 := by have := hg.2.1; omega
  by_cases hkN : k = N
  case neg =>
    obtain rfl : c = false := by
      cases c with
      | false => rfl
      | true => exact absurd (hc.1 rfl) (fun h => hkN (by have := h.1.2; omega))
    have hkb : ((k : Int) != (N : Int)) = true := by simp; omega
    clear hc hs hu hn hk hg hkN
    go_enter Try.func94, Try.ntmps94
    go_wp2
    go_ret
    exact ⟨rfl, Below.refl _ _⟩
  subst hkN
  have hkb : ((k : Int) != (k : Int)) = false := by simp
  have hNI : (0 : Int) ≤ (k : Int) := by omega
  have hc2 : c = true ↔ ∀ i, i < k → 0 ≤ us.getD i 0 ∧ us.getD i 0 ≤ cntN l n i := by
    rw [hc]
    constructor
    · intro h i hi; have := h.2 i (by omega); rw [hn] at this; exact this
    · intro h; exact ⟨⟨hg, by rw [hk]⟩, fun i hi => by have := h i (by omega); rw [hn]; exact this⟩
  obtain ⟨i1, hi1, hy0, hy1, hy2⟩ := info_parts info_int
  obtain ⟨w1, hmk, hown1, hg1⟩ := run_make_full (P := Try.prog) w w.heap.size 27 3 i1 (.int .i64 0) 1 Try.underlying27 hi1 hy0 hy1 .i64 .i64 k (by rw [hy2]; omega) (by unfold maxLen; omega) (Nat.le_refl _)
  rw [made_lA] at hown1
  have hb1 : Below w.heap.size w w1 := (Below.refl _ _).grown hg1 (Nat.le_refl _) (fun k hk => by cases hk)
  have A0 : Hid (Arr 3 k w1 w.heap.size w.heap.size (cntN l 0)) := hown1
  have HB1 := hide hb1
  have HG := hide hg
  have HS := hide hs
  have HU := hide hu
  have HN := hide hn
  have HK := hide hk
  have HC := hide hc2
  clear hown1 hg1 hs hu hn hk hg hb1 hc hc2
  go_enter Try.func94, Try.ntmps94
  go_wp2
  obtain ⟨g, hge⟩ : ∃ g, g = w.heap.size := ⟨_, rfl⟩
  have HGE := hide hge
  have A1 : Hid (Arr 3 k w1 w.heap.size g (cntN l 0)) := by rw [hge]; exact A0
  rw [← hge]
  clear hge A0 hmk
  go_loopw [20] (fun i wr => ∃ j : Nat, j ≤ n ∧ i = .int .i64 j ∧ Hid (Arr 3 k wr w.heap.size g (cntN l j)) ∧ Hid (Below w.heap.size w wr)) (fun i _ => n - (intOf i).toNat)
  case atStart => exact ⟨0, Nat.zero_le _, rfl, A1, HB1⟩
  case round =>
    obtain ⟨j, hj, rfl, HA, HB⟩ := hrel
    by_cases hlt : j < n
    · have hv := HG.out.2.2.2 j (by rw [HN.out]; exact hlt)
      obtain ⟨xn, hx⟩ : ∃ xn : Nat, nd l j = (xn : Int) := ⟨(nd l j).toNat, by have := hv.1; omega⟩
      have hxN : xn < k := by have := hv.2.1; omega
      have hsl := HS.out.below HB.out
      obtain ⟨b, off, rfl, q1, q2⟩ := hsl j (by rw [HN.out]; exact hlt)
      clear q1 q2
      obtain ⟨hc, hd⟩ := hsl.two j (by rw [HN.out]; exact hlt)
      rw [hx] at hc
      obtain ⟨y, hy⟩ : ∃ y, y = fr l j := ⟨_, rfl⟩
      rw [← hy] at hd
      have hltI : (j : Int) < (n : Int) := by omega
      have hxI : (xn : Int) < (k : Int) := by omega
      have hx0 : (0 : Int) ≤ (xn : Int) := by omega
      have HX := hide hx
      clear hx hv hsl hy
      go_upto_region 7 with fail
      obtain ⟨W0, hW0⟩ : ∃ W0, wr.alloc (.cells #[.int .i64 xn, .int .i64 y] 118) = W0 := ⟨_, rfl⟩
      have hbw : Below wr.heap.size wr W0 := by rw [← hW0]; exact (Below.refl _ _).alloc (Nat.le_refl _) _
      have e0 : W0.cell? ⟨wr.heap.size, 0, none⟩ = some (.int .i64 xn) := by rw [← hW0]; simp
      have HA0 := hide (HA.out.below hbw)
      have BB0 := hide (HB.out.trans (hbw.mono HB.out.size))
      have hzw : wr.heap.size < W0.heap.size := by rw [← hW0]; simp
      rw [hW0]
      obtain ⟨eb, heb⟩ : ∃ eb, eb = wr.heap.size := ⟨_, rfl⟩
      rw [← heb] at e0 hzw ⊢
      have hgeb : g < eb := by rw [heb]; exact HA.out.lt
      clear hW0 hbw heb HA HB
      have hcx := HA0.out.cell xn hxN
      have hcf := HA0.out.frozenAt xn
      have hsu := cntN_succ l j xn HX.out
      have hb0 := cnt_nn l (xn : Int) j
      have hb1 := cnt_le l (xn : Int) j
      obtain ⟨m, hm⟩ : ∃ m, m = cntN l j xn := ⟨_, rfl⟩
      rw [← hm] at hcx hsu
      have hm0 : 0 ≤ m := by rw [hm]; exact hb0
      have hm1 : m ≤ 40 := by rw [hm]; unfold cntN; omega
      have hmc : m + 1 = cnt l (nd l j) (j + 1) := by
        have h1 := hsu xn
        rw [updI_self] at h1
        rw [h1, HX.out]; rfl
      have HMC := hide hmc
      have HSU := hide hsu
      clear hm hsu hb0 hb1 hmc
      have HN2 : Hid (Arr 3 k (W0.setCell ⟨g, xn, none⟩ (.int .i64 (m + 1))) w.heap.size g (cntN l (j + 1))) := hide ((HA0.out.set xn (m + 1)).congr (fun i _ => HSU.out i))
      have B2 : Hid (Below w.heap.size w (W0.setCell ⟨g, xn, none⟩ (.int .i64 (m + 1)))) := hide (BB0.out.setCell (p := ⟨g, xn, none⟩) (by show w.heap.size ≤ g; rw [HGE.out]; exact Nat.le_refl _) _)
      clear HA0 BB0
      go_wp2
      go_roundw
      case rel => exact ⟨j + 1, by omega, by go_num, HN2, B2⟩
      case measure => simp [intOf]; omega
    · have hltI : ¬ (j : Int) < (n : Int) := by omega
      obtain rfl : j = n := by omega
      go_wp2
      go_loopw [34] (fun i wr2 => ∃ q : Nat, q ≤ k ∧ i = .int .i64 q ∧ Hid (∀ p, p < q → 0 ≤ us.getD p 0 ∧ us.getD p 0 ≤ cntN l j p) ∧ wr = wr2) (fun i _ => k - (intOf i).toNat)
      case atStart => exact ⟨0, Nat.zero_le _, rfl, fun p hp => absurd hp (Nat.not_lt_zero _), rfl⟩
      case round =>
        obtain ⟨q, hq, rfl, HJ, rfl⟩ := hrel
        by_cases hlq : q < k
        · obtain ⟨ub, uo, rfl, hu0⟩ := HU.out q (by rw [HK.out]; exact hlq)
          have hu1 := (HB.out.cell (p := ⟨ub, uo + q, none⟩) (blk_lt hu0)).trans hu0
          have hcx := HA.out.cell q hlq
          have hltq : (q : Int) < (k : Int) := by omega
          have hq0 : (0 : Int) ≤ (q : Int) := by omega
          obtain ⟨x, hx⟩ : ∃ x, x = us.getD q 0 := ⟨_, rfl⟩
          obtain ⟨m, hm⟩ : ∃ m, m = cntN l j q := ⟨_, rfl⟩
          rw [← hx] at hu1
          rw [← hm] at hcx
          have hall : (∀ p, p < q + 1 → 0 ≤ us.getD p 0 ∧ us.getD p 0 ≤ cntN l j p) ↔ 0 ≤ x ∧ x ≤ m := by
            constructor
            · intro h; have := h q (by omega); rw [← hx, ← hm] at this; exact this
            · intro h p hp
              by_cases e : p = q
              · subst e; rw [← hx, ← hm]; exact h
              · exact HJ.out p (by omega)
          have HALL := hide hall
          clear hu0 hx hm hall
          by_cases hin : 0 ≤ x ∧ x ≤ m
          · have CI := hide (fun w => l1In_any x 0 m w true (by simp; omega))
            have HJ2 := hide (HALL.out.2 hin)
            clear hin
            go_wp2_with fail
            refine (CI.out _).mono ?_
            rintro e w3 ⟨rfl, rfl⟩
            go_wp2
            go_roundw
            case rel => exact ⟨q + 1, by omega, by go_num, HJ2, by first | trivial | rfl⟩
            case measure => simp [intOf]; omega
          · have CI := hide (fun w => l1In_any x 0 m w false (by simp; omega))
            have E : Hid (c = false) := by
              cases c with
              | false => rfl
              | true => exact absurd (HALL.out.1 (fun p hp => HC.out.1 rfl p (by omega))) hin
            clear hin
            go_wp2_with fail
            refine (CI.out _).mono ?_
            rintro e w3 ⟨rfl, rfl⟩
            go_wp2
            go_ret
            exact ⟨by rw [E.out]; rfl, HB.out⟩
        · have hltq : ¬ (q : Int) < (k : Int) := by omega
          have E : Hid (c = true) := HC.out.2 (fun p hp => HJ.out p (by omega))
          go_wp2
          go_ret
          exact ⟨by rw [E.out]; rfl, HB.out⟩
end Go.Proofs.Ytkfnejiiancmhad.L11

namespace Go.Proofs.Ytkfnejiiancmhad.L11
open Go.RowKit L1 Own
set_option linter.unusedVariables false

theorem wrap6 (z : Int) (h1 : -9223372036854775808 ≤ z) (h2 : z ≤ 9223372036854775807) : IntKind.i64.wrap z = z := by
  simp [IntKind.wrap, IntKind.bits, IntKind.signed]
  omega
/-- The event at a place is good, its node at most a number. -/
def StepM (M : Int) (l : List Ev) (k : Nat) : Prop := 0 ≤ nd l k ∧ nd l k ≤ M ∧ -1 ≤ fr l k ∧ fr l k ≤ (k : Int) - 1 ∧ (0 ≤ fr l k → nd l (fr l k).toNat ≠ nd l k)
set_option maxRecDepth 100000 in
set_option maxHeartbeats 4000000 in
theorem specGoodEvents_any (N : Int) (a : Option Addr) (l : List (Int × Int)) (n cap : Nat) (w : World) (hn : l.length = n) (hs : Sl2 w a l) (hn2 : n ≤ 1048576) (hN : N ≤ 9223372036854775807) (bb : Bool) (hbb : bb = true ↔ GoodV N l) :
    Calls Try.prog 77 #[.int .i64 N, .slice a n cap] w fun e w' => e = .returned (.bool bb) ∧ Below w.heap.size w w' := by
  obtain ⟨M, hM⟩ : ∃ M, IntKind.i64.wrap (N - 1) = M := ⟨_, rfl⟩
  have hMN : 1 ≤ N → M = N - 1 := fun h => by
    rw [← hM]
    exact wrap6 _ (by omega) (by omega)
  have HMN := hide hMN
  have HBB := hide hbb
  have HS := hide hs
  have HN := hide hn
  clear hs hn hbb hN hMN
  go_enter Try.func77, Try.ntmps77
  go_wp2
  go_loopw [9] (fun i wr => ∃ k : Nat, k ≤ n ∧ i = .int .i64 k ∧ Hid (∀ j, j < k → StepM M l j) ∧ Below w.heap.size w wr) (fun i _ => n - (intOf i).toNat)
  case atStart => exact ⟨0, Nat.zero_le _, rfl, fun j hj => absurd hj (Nat.not_lt_zero _), Below.refl _ _⟩
  case round =>
    obtain ⟨k, hk, rfl, HJ, hbel⟩ := hrel
    by_cases hlt : k < n
    · have hno : bb = true → StepM M l k := fun h => by
        have h1 := HBB.out.1 h
        have h2 := h1.2.2.2 k (by rw [HN.out]; exact hlt)
        have h3 := HMN.out h1.1
        exact ⟨h2.1, by have := h2.2.1; omega, h2.2.2.1, by have := h2.2.2.2.1; omega, h2.2.2.2.2⟩
      have hste : StepM M l k ↔ 0 ≤ nd l k ∧ nd l k ≤ M ∧ -1 ≤ fr l k ∧ fr l k ≤ (k : Int) - 1 ∧ (0 ≤ fr l k → nd l (fr l k).toNat ≠ nd l k) := Iff.rfl
      obtain ⟨b, off, rfl, hc0, hd0⟩ := HS.out k (by rw [HN.out]; exact hlt)
      have hc : wr.cell? ⟨b, off + k * 2, none⟩ = some (.int .i64 (nd l k)) := (hbel.cell (p := ⟨b, off + k * 2, none⟩) (blk_lt hc0)).trans hc0
      have hd : wr.cell? ⟨b, off + k * 2 + 1, none⟩ = some (.int .i64 (fr l k)) := (hbel.cell (p := ⟨b, off + k * 2 + 1, none⟩) (blk_lt hd0)).trans hd0
      have hzc : ∀ f : Nat, f < n → wr.cell? ⟨b, off + f * 2, none⟩ = some (.int .i64 (nd l f)) := fun f hf => ((HS.out.below hbel).two f (by rw [HN.out]; exact hf)).1
      have hltI : (k : Int) < (n : Int) := by omega
      obtain ⟨km, hkm⟩ : ∃ km, IntKind.i64.wrap ((k : Int) - 1) = km := ⟨_, rfl⟩
      have hkm2 : km = (k : Int) - 1 := by rw [← hkm]; exact wrap6 _ (by omega) (by omega)
      obtain ⟨x, hx⟩ : ∃ x, x = nd l k := ⟨_, rfl⟩
      obtain ⟨y, hy⟩ : ∃ y, y = fr l k := ⟨_, rfl⟩
      rw [← hx] at hc
      rw [← hy] at hd
      rw [← hx, ← hy, ← hkm2] at hste
      have HKM := hide hkm2
      have HNO := hide hno
      have HSTE := hide hste
      have HZC := hide hzc
      have B0 := hide hbel
      clear hc0 hd0 hx hy hbel hno hste hkm2 hzc
      go_wp2
      obtain ⟨W0, hW0⟩ : ∃ W0, wr.alloc (.cells #[.int .i64 x, .int .i64 y] 118) = W0 := ⟨_, rfl⟩
      have c0 : W0.cell? ⟨wr.heap.size, 0, none⟩ = some (.int .i64 x) := by rw [← hW0]; simp
      have c1 : W0.cell? ⟨wr.heap.size, 1, none⟩ = some (.int .i64 y) := by rw [← hW0]; simp
      have hb0 : Below wr.heap.size wr W0 := by rw [← hW0]; exact (Below.refl _ _).alloc (Nat.le_refl _) _
      rw [hW0]
      clear hW0
      by_cases hA : 0 ≤ x ∧ x ≤ M
      case neg =>
        have CA := hide (fun w => l1In_any x 0 M w false (by simp; omega))
        have E : Hid (bb = false) := by
          cases bb with
          | false => rfl
          | true => have := HSTE.out.1 (HNO.out rfl); omega
        clear hA
        refine wp_region_held_drew (S := (fun wx => wx.cell? ⟨wr.heap.size, 0, none⟩ = some (.int .i64 x) ∧ wx.cell? ⟨wr.heap.size, 1, none⟩ = some (.int .i64 y) ∧ Below W0.heap.size W0 wx)) (by kernel_rfl) ⟨c0, c1, (Below.refl _ _).drew⟩ (fun hHeld => ?_)
        refine wpAnyH_take (i := 0) (v := ?v1) rfl (by kernel_rfl) (by kernel_rfl) (by kernel_rfl) (fun _ _ _ h => h) (Or.inl ⟨by rfl, ?y1⟩) (by assumption) ?r1
        case y1 => (intro w hSw; (try dsimp only at hSw); go_simp; try (with_reducible rfl))
        simp only [List.getElem_toArray, List.getElem_cons_zero, Act.put, List.setIfInBounds_toArray, List.set_cons_zero, List.set_cons_succ]
        refine wpAnyH_take (i := 1) (v := ?v2) rfl (by kernel_rfl) (by kernel_rfl) (by kernel_rfl) (fun _ _ _ h => h) (Or.inl ⟨by rfl, ?y2⟩) (by assumption) ?r2
        case y2 => (intro w hSw; (try dsimp only at hSw); go_simp; try (with_reducible rfl))
        simp only [List.getElem_toArray, List.getElem_cons_succ, List.getElem_cons_zero, Act.put, List.setIfInBounds_toArray, List.set_cons_zero, List.set_cons_succ]
        refine wpAnyH_take (i := 2) (v := ?v3) rfl (by kernel_rfl) (by kernel_rfl) (by kernel_rfl) (fun _ _ _ h => h) (Or.inl ⟨by rfl, ?y3⟩) (by assumption) ?r3
        case y3 => (intro w hSw; (try dsimp only at hSw); go_simp; try (with_reducible rfl))
        simp only [List.getElem_toArray, List.getElem_cons_succ, List.getElem_cons_zero, Act.put, List.setIfInBounds_toArray, List.set_cons_zero, List.set_cons_succ]
        refine wpAnyH_take (i := 3) (v := ?v4) rfl (by kernel_rfl) (by kernel_rfl) (by kernel_rfl) (fun _ _ _ h => h) (Or.inl ⟨by rfl, ?y4⟩) (by assumption) ?r4
        case y4 => (intro w hSw; (try dsimp only at hSw); go_simp; try (with_reducible rfl))
        simp only [List.getElem_toArray, List.getElem_cons_succ, List.getElem_cons_zero, Act.put, List.setIfInBounds_toArray, List.set_cons_zero, List.set_cons_succ]
        refine wpAnyH_ready (rs := [4]) (by kernel_rfl) (by simp) ?_
        refine AllReadyH.cons rfl (fun K hK => ?_) AllReadyH.nil
        simp only [List.getElem_toArray, List.getElem_cons_succ, List.getElem_cons_zero]
        go_simp
        go_at_call 66
        refine (CA.out _).mono ?_
        rintro e w1 ⟨rfl, rfl⟩
        dsimp only
        refine hK.out _ _ ?_ (fun hHeld => ?_)
        · assumption
        clear hK K
        try simp only [Act.put, List.setIfInBounds_toArray, List.set_cons_zero, List.set_cons_succ]
        refine wpAnyH_take (i := 5) (v := ?v5) rfl (by kernel_rfl) (by kernel_rfl) (by kernel_rfl) (fun _ _ _ h => h) (Or.inl ⟨by rfl, ?y5⟩) (by assumption) ?r5
        case y5 => (intro w hSw; (try dsimp only at hSw); go_simp; try (with_reducible rfl))
        simp only [List.getElem_toArray, List.getElem_cons_succ, List.getElem_cons_zero, Act.put, List.setIfInBounds_toArray, List.set_cons_zero, List.set_cons_succ]
        refine wpAnyH_take (i := 6) (v := ?v6) rfl (by kernel_rfl) (by kernel_rfl) (by kernel_rfl) (fun _ _ _ h => h) (Or.inl ⟨by rfl, ?y6⟩) (by assumption) ?r6
        case y6 => (intro w hSw; (try dsimp only at hSw); go_simp; try (with_reducible rfl))
        simp only [List.getElem_toArray, List.getElem_cons_succ, List.getElem_cons_zero, Act.put, List.setIfInBounds_toArray, List.set_cons_zero, List.set_cons_succ]
        refine wpAnyH_take (i := 7) (v := undef) rfl (by kernel_rfl) (by kernel_rfl) (by kernel_rfl) (fun _ _ _ h => h) (Or.inr ⟨by rfl, rfl⟩) (by assumption) ?_
        simp only [List.getElem_toArray, List.getElem_cons_succ, List.getElem_cons_zero, Act.put, List.setIfInBounds_toArray, List.set_cons_zero, List.set_cons_succ]
        refine wpAnyH_take (i := 8) (v := undef) rfl (by kernel_rfl) (by kernel_rfl) (by kernel_rfl) (fun _ _ _ h => h) (Or.inr ⟨by rfl, rfl⟩) (by assumption) ?_
        simp only [List.getElem_toArray, List.getElem_cons_succ, List.getElem_cons_zero, Act.put, List.setIfInBounds_toArray, List.set_cons_zero, List.set_cons_succ]
        refine wpAnyH_take (i := 9) (v := undef) rfl (by kernel_rfl) (by kernel_rfl) (by kernel_rfl) (fun _ _ _ h => h) (Or.inr ⟨by rfl, rfl⟩) (by assumption) ?_
        simp only [List.getElem_toArray, List.getElem_cons_succ, List.getElem_cons_zero, Act.put, List.setIfInBounds_toArray, List.set_cons_zero, List.set_cons_succ]
        refine wpAnyH_take (i := 10) (v := undef) rfl (by kernel_rfl) (by kernel_rfl) (by kernel_rfl) (fun _ _ _ h => h) (Or.inr ⟨by rfl, rfl⟩) (by assumption) ?_
        simp only [List.getElem_toArray, List.getElem_cons_succ, List.getElem_cons_zero, Act.put, List.setIfInBounds_toArray, List.set_cons_zero, List.set_cons_succ]
        refine wpAnyH_take (i := 11) (v := undef) rfl (by kernel_rfl) (by kernel_rfl) (by kernel_rfl) (fun _ _ _ h => h) (Or.inr ⟨by rfl, rfl⟩) (by assumption) ?_
        simp only [List.getElem_toArray, List.getElem_cons_succ, List.getElem_cons_zero, Act.put, List.setIfInBounds_toArray, List.set_cons_zero, List.set_cons_succ]
        refine wpAnyH_take (i := 12) (v := undef) rfl (by kernel_rfl) (by kernel_rfl) (by kernel_rfl) (fun _ _ _ h => h) (Or.inr ⟨by rfl, rfl⟩) (by assumption) ?_
        simp only [List.getElem_toArray, List.getElem_cons_succ, List.getElem_cons_zero, Act.put, List.setIfInBounds_toArray, List.set_cons_zero, List.set_cons_succ]
        refine wpAnyH_take (i := 13) (v := ?v13) rfl (by kernel_rfl) (by kernel_rfl) (by kernel_rfl) (fun _ _ _ h => h) (Or.inl ⟨by rfl, ?y13⟩) (by assumption) ?r13
        case y13 => (intro w hSw; (try dsimp only at hSw); go_simp; try (with_reducible rfl))
        simp only [List.getElem_toArray, List.getElem_cons_succ, List.getElem_cons_zero, Act.put, List.setIfInBounds_toArray, List.set_cons_zero, List.set_cons_succ]
        refine wpAnyH_take (i := 14) (v := ?v14) rfl (by kernel_rfl) (by kernel_rfl) (by kernel_rfl) (fun _ _ _ h => h) (Or.inl ⟨by rfl, ?y14⟩) (by assumption) ?r14
        case y14 => (intro w hSw; (try dsimp only at hSw); go_simp; try (with_reducible rfl))
        simp only [List.getElem_toArray, List.getElem_cons_succ, List.getElem_cons_zero, Act.put, List.setIfInBounds_toArray, List.set_cons_zero, List.set_cons_succ]
        refine wpAnyH_take (i := 15) (v := undef) rfl (by kernel_rfl) (by kernel_rfl) (by kernel_rfl) (fun _ _ _ h => h) (Or.inr ⟨by rfl, rfl⟩) (by assumption) ?_
        simp only [List.getElem_toArray, List.getElem_cons_succ, List.getElem_cons_zero, Act.put, List.setIfInBounds_toArray, List.set_cons_zero, List.set_cons_succ]
        refine wpAnyH_take (i := 16) (v := undef) rfl (by kernel_rfl) (by kernel_rfl) (by kernel_rfl) (fun _ _ _ h => h) (Or.inr ⟨by rfl, rfl⟩) (by assumption) ?_
        simp only [List.getElem_toArray, List.getElem_cons_succ, List.getElem_cons_zero, Act.put, List.setIfInBounds_toArray, List.set_cons_zero, List.set_cons_succ]
        refine wpAnyH_take (i := 17) (v := undef) rfl (by kernel_rfl) (by kernel_rfl) (by kernel_rfl) (fun _ _ _ h => h) (Or.inr ⟨by rfl, rfl⟩) (by assumption) ?_
        simp only [List.getElem_toArray, List.getElem_cons_succ, List.getElem_cons_zero, Act.put, List.setIfInBounds_toArray, List.set_cons_zero, List.set_cons_succ]
        refine wpAnyH_take (i := 18) (v := undef) rfl (by kernel_rfl) (by kernel_rfl) (by kernel_rfl) (fun _ _ _ h => h) (Or.inr ⟨by rfl, rfl⟩) (by assumption) ?_
        simp only [List.getElem_toArray, List.getElem_cons_succ, List.getElem_cons_zero, Act.put, List.setIfInBounds_toArray, List.set_cons_zero, List.set_cons_succ]
        refine wpAnyH_take (i := 19) (v := undef) rfl (by kernel_rfl) (by kernel_rfl) (by kernel_rfl) (fun _ _ _ h => h) (Or.inr ⟨by rfl, rfl⟩) (by assumption) ?_
        simp only [List.getElem_toArray, List.getElem_cons_succ, List.getElem_cons_zero, Act.put, List.setIfInBounds_toArray, List.set_cons_zero, List.set_cons_succ]
        refine wpAnyH_take (i := 20) (v := undef) rfl (by kernel_rfl) (by kernel_rfl) (by kernel_rfl) (fun _ _ _ h => h) (Or.inr ⟨by rfl, rfl⟩) (by assumption) ?_
        simp only [List.getElem_toArray, List.getElem_cons_succ, List.getElem_cons_zero, Act.put, List.setIfInBounds_toArray, List.set_cons_zero, List.set_cons_succ]
        refine wpAnyH_take (i := 21) (v := undef) rfl (by kernel_rfl) (by kernel_rfl) (by kernel_rfl) (fun _ _ _ h => h) (Or.inr ⟨by rfl, rfl⟩) (by assumption) ?_
        simp only [List.getElem_toArray, List.getElem_cons_succ, List.getElem_cons_zero, Act.put, List.setIfInBounds_toArray, List.set_cons_zero, List.set_cons_succ]
        refine wpAnyH_take (i := 22) (v := undef) rfl (by kernel_rfl) (by kernel_rfl) (by kernel_rfl) (fun _ _ _ h => h) (Or.inr ⟨by rfl, rfl⟩) (by assumption) ?_
        simp only [List.getElem_toArray, List.getElem_cons_succ, List.getElem_cons_zero, Act.put, List.setIfInBounds_toArray, List.set_cons_zero, List.set_cons_succ]
        refine wpAnyH_take (i := 23) (v := undef) rfl (by kernel_rfl) (by kernel_rfl) (by kernel_rfl) (fun _ _ _ h => h) (Or.inr ⟨by rfl, rfl⟩) (by assumption) ?_
        simp only [List.getElem_toArray, List.getElem_cons_succ, List.getElem_cons_zero, Act.put, List.setIfInBounds_toArray, List.set_cons_zero, List.set_cons_succ]
        refine wpAnyH_take (i := 24) (v := undef) rfl (by kernel_rfl) (by kernel_rfl) (by kernel_rfl) (fun _ _ _ h => h) (Or.inr ⟨by rfl, rfl⟩) (by assumption) ?_
        simp only [List.getElem_toArray, List.getElem_cons_succ, List.getElem_cons_zero, Act.put, List.setIfInBounds_toArray, List.set_cons_zero, List.set_cons_succ]
        refine wpAnyH_take (i := 25) (v := undef) rfl (by kernel_rfl) (by kernel_rfl) (by kernel_rfl) (fun _ _ _ h => h) (Or.inr ⟨by rfl, rfl⟩) (by assumption) ?_
        simp only [List.getElem_toArray, List.getElem_cons_succ, List.getElem_cons_zero, Act.put, List.setIfInBounds_toArray, List.set_cons_zero, List.set_cons_succ]
        refine wpAnyH_take (i := 26) (v := undef) rfl (by kernel_rfl) (by kernel_rfl) (by kernel_rfl) (fun _ _ _ h => h) (Or.inr ⟨by rfl, rfl⟩) (by assumption) ?_
        simp only [List.getElem_toArray, List.getElem_cons_succ, List.getElem_cons_zero, Act.put, List.setIfInBounds_toArray, List.set_cons_zero, List.set_cons_succ]
        refine wpAnyH_take (i := 27) (v := undef) rfl (by kernel_rfl) (by kernel_rfl) (by kernel_rfl) (fun _ _ _ h => h) (Or.inr ⟨by rfl, rfl⟩) (by assumption) ?_
        simp only [List.getElem_toArray, List.getElem_cons_succ, List.getElem_cons_zero, Act.put, List.setIfInBounds_toArray, List.set_cons_zero, List.set_cons_succ]
        refine wpAnyH_take (i := 28) (v := undef) rfl (by kernel_rfl) (by kernel_rfl) (by kernel_rfl) (fun _ _ _ h => h) (Or.inr ⟨by rfl, rfl⟩) (by assumption) ?_
        simp only [List.getElem_toArray, List.getElem_cons_succ, List.getElem_cons_zero, Act.put, List.setIfInBounds_toArray, List.set_cons_zero, List.set_cons_succ]
        refine wpAnyH_take (i := 29) (v := ?v29) rfl (by kernel_rfl) (by kernel_rfl) (by kernel_rfl) (fun _ _ _ h => h) (Or.inl ⟨by rfl, ?y29⟩) (by assumption) ?r29
        case y29 => (intro w hSw; (try dsimp only at hSw); go_simp; try (with_reducible rfl))
        simp only [List.getElem_toArray, List.getElem_cons_succ, List.getElem_cons_zero, Act.put, List.setIfInBounds_toArray, List.set_cons_zero, List.set_cons_succ]
        refine wpAnyH_done (by kernel_rfl) ?_ _
        have B1 := hide ((B0.out.trans (hb0.mono B0.out.size)).trans (hHeld.2.2.mono (Nat.le_trans B0.out.size hb0.size)))
        clear hHeld
        go_wp2
        go_ret
        exact ⟨by rw [E.out]; rfl, B1.out⟩
      have CA := hide (fun w => l1In_any x 0 M w true (by simp; omega))
      have HA := hide hA
      clear hA
      by_cases hB : -1 ≤ y ∧ y ≤ km
      case neg =>
        have CB := hide (fun w => l1In_any y (-1) km w false (by simp; omega))
        have E : Hid (bb = false) := by
          cases bb with
          | false => rfl
          | true => have := HSTE.out.1 (HNO.out rfl); omega
        clear hB
        refine wp_region_held_drew (S := (fun wx => wx.cell? ⟨wr.heap.size, 0, none⟩ = some (.int .i64 x) ∧ wx.cell? ⟨wr.heap.size, 1, none⟩ = some (.int .i64 y) ∧ Below W0.heap.size W0 wx)) (by kernel_rfl) ⟨c0, c1, (Below.refl _ _).drew⟩ (fun hHeld => ?_)
        refine wpAnyH_take (i := 0) (v := ?v30) rfl (by kernel_rfl) (by kernel_rfl) (by kernel_rfl) (fun _ _ _ h => h) (Or.inl ⟨by rfl, ?y30⟩) (by assumption) ?r30
        case y30 => (intro w hSw; (try dsimp only at hSw); go_simp; try (with_reducible rfl))
        simp only [List.getElem_toArray, List.getElem_cons_zero, Act.put, List.setIfInBounds_toArray, List.set_cons_zero, List.set_cons_succ]
        refine wpAnyH_take (i := 1) (v := ?v31) rfl (by kernel_rfl) (by kernel_rfl) (by kernel_rfl) (fun _ _ _ h => h) (Or.inl ⟨by rfl, ?y31⟩) (by assumption) ?r31
        case y31 => (intro w hSw; (try dsimp only at hSw); go_simp; try (with_reducible rfl))
        simp only [List.getElem_toArray, List.getElem_cons_succ, List.getElem_cons_zero, Act.put, List.setIfInBounds_toArray, List.set_cons_zero, List.set_cons_succ]
        refine wpAnyH_take (i := 2) (v := ?v32) rfl (by kernel_rfl) (by kernel_rfl) (by kernel_rfl) (fun _ _ _ h => h) (Or.inl ⟨by rfl, ?y32⟩) (by assumption) ?r32
        case y32 => (intro w hSw; (try dsimp only at hSw); go_simp; try (with_reducible rfl))
        simp only [List.getElem_toArray, List.getElem_cons_succ, List.getElem_cons_zero, Act.put, List.setIfInBounds_toArray, List.set_cons_zero, List.set_cons_succ]
        refine wpAnyH_take (i := 3) (v := ?v33) rfl (by kernel_rfl) (by kernel_rfl) (by kernel_rfl) (fun _ _ _ h => h) (Or.inl ⟨by rfl, ?y33⟩) (by assumption) ?r33
        case y33 => (intro w hSw; (try dsimp only at hSw); go_simp; try (with_reducible rfl))
        simp only [List.getElem_toArray, List.getElem_cons_succ, List.getElem_cons_zero, Act.put, List.setIfInBounds_toArray, List.set_cons_zero, List.set_cons_succ]
        refine wpAnyH_ready (rs := [4]) (by kernel_rfl) (by simp) ?_
        refine AllReadyH.cons rfl (fun K hK => ?_) AllReadyH.nil
        simp only [List.getElem_toArray, List.getElem_cons_succ, List.getElem_cons_zero]
        go_simp
        go_at_call 66
        refine (CA.out _).mono ?_
        rintro e w1 ⟨rfl, rfl⟩
        dsimp only
        refine hK.out _ _ ?_ (fun hHeld => ?_)
        · assumption
        clear hK K
        try simp only [Act.put, List.setIfInBounds_toArray, List.set_cons_zero, List.set_cons_succ]
        refine wpAnyH_take (i := 5) (v := ?v34) rfl (by kernel_rfl) (by kernel_rfl) (by kernel_rfl) (fun _ _ _ h => h) (Or.inl ⟨by rfl, ?y34⟩) (by assumption) ?r34
        case y34 => (intro w hSw; (try dsimp only at hSw); go_simp; try (with_reducible rfl))
        simp only [List.getElem_toArray, List.getElem_cons_succ, List.getElem_cons_zero, Act.put, List.setIfInBounds_toArray, List.set_cons_zero, List.set_cons_succ]
        refine wpAnyH_take (i := 6) (v := ?v35) rfl (by kernel_rfl) (by kernel_rfl) (by kernel_rfl) (fun _ _ _ h => h) (Or.inl ⟨by rfl, ?y35⟩) (by assumption) ?r35
        case y35 => (intro w hSw; (try dsimp only at hSw); go_simp; try (with_reducible rfl))
        simp only [List.getElem_toArray, List.getElem_cons_succ, List.getElem_cons_zero, Act.put, List.setIfInBounds_toArray, List.set_cons_zero, List.set_cons_succ]
        refine wpAnyH_take (i := 7) (v := ?v36) rfl (by kernel_rfl) (by kernel_rfl) (by kernel_rfl) (fun _ _ _ h => h) (Or.inl ⟨by rfl, ?y36⟩) (by assumption) ?r36
        case y36 => (intro w hSw; (try dsimp only at hSw); go_simp; try (with_reducible rfl))
        simp only [List.getElem_toArray, List.getElem_cons_succ, List.getElem_cons_zero, Act.put, List.setIfInBounds_toArray, List.set_cons_zero, List.set_cons_succ]
        refine wpAnyH_take (i := 8) (v := ?v37) rfl (by kernel_rfl) (by kernel_rfl) (by kernel_rfl) (fun _ _ _ h => h) (Or.inl ⟨by rfl, ?y37⟩) (by assumption) ?r37
        case y37 => (intro w hSw; (try dsimp only at hSw); go_simp; try (with_reducible rfl))
        simp only [List.getElem_toArray, List.getElem_cons_succ, List.getElem_cons_zero, Act.put, List.setIfInBounds_toArray, List.set_cons_zero, List.set_cons_succ]
        refine wpAnyH_take (i := 9) (v := ?v38) rfl (by kernel_rfl) (by kernel_rfl) (by kernel_rfl) (fun _ _ _ h => h) (Or.inl ⟨by rfl, ?y38⟩) (by assumption) ?r38
        case y38 => (intro w hSw; (try dsimp only at hSw); go_simp; try (with_reducible rfl))
        simp only [List.getElem_toArray, List.getElem_cons_succ, List.getElem_cons_zero, Act.put, List.setIfInBounds_toArray, List.set_cons_zero, List.set_cons_succ]
        refine wpAnyH_take (i := 10) (v := ?v39) rfl (by kernel_rfl) (by kernel_rfl) (by kernel_rfl) (fun _ _ _ h => h) (Or.inl ⟨by rfl, ?y39⟩) (by assumption) ?r39
        case y39 => (intro w hSw; (try dsimp only at hSw); go_simp; try (with_reducible rfl))
        simp only [List.getElem_toArray, List.getElem_cons_succ, List.getElem_cons_zero, Act.put, List.setIfInBounds_toArray, List.set_cons_zero, List.set_cons_succ]
        refine wpAnyH_ready (rs := [11]) (by kernel_rfl) (by simp) ?_
        refine AllReadyH.cons rfl (fun K hK => ?_) AllReadyH.nil
        simp only [List.getElem_toArray, List.getElem_cons_succ, List.getElem_cons_zero]
        go_simp
        go_at_call 66
        refine (CB.out _).mono ?_
        rintro e w1 ⟨rfl, rfl⟩
        dsimp only
        refine hK.out _ _ ?_ (fun hHeld => ?_)
        · assumption
        clear hK K
        try simp only [Act.put, List.setIfInBounds_toArray, List.set_cons_zero, List.set_cons_succ]
        refine wpAnyH_take (i := 12) (v := ?v40) rfl (by kernel_rfl) (by kernel_rfl) (by kernel_rfl) (fun _ _ _ h => h) (Or.inl ⟨by rfl, ?y40⟩) (by assumption) ?r40
        case y40 => (intro w hSw; (try dsimp only at hSw); go_simp; try (with_reducible rfl))
        simp only [List.getElem_toArray, List.getElem_cons_succ, List.getElem_cons_zero, Act.put, List.setIfInBounds_toArray, List.set_cons_zero, List.set_cons_succ]
        refine wpAnyH_take (i := 13) (v := ?v41) rfl (by kernel_rfl) (by kernel_rfl) (by kernel_rfl) (fun _ _ _ h => h) (Or.inl ⟨by rfl, ?y41⟩) (by assumption) ?r41
        case y41 => (intro w hSw; (try dsimp only at hSw); go_simp; try (with_reducible rfl))
        simp only [List.getElem_toArray, List.getElem_cons_succ, List.getElem_cons_zero, Act.put, List.setIfInBounds_toArray, List.set_cons_zero, List.set_cons_succ]
        refine wpAnyH_take (i := 14) (v := ?v42) rfl (by kernel_rfl) (by kernel_rfl) (by kernel_rfl) (fun _ _ _ h => h) (Or.inl ⟨by rfl, ?y42⟩) (by assumption) ?r42
        case y42 => (intro w hSw; (try dsimp only at hSw); go_simp; try (with_reducible rfl))
        simp only [List.getElem_toArray, List.getElem_cons_succ, List.getElem_cons_zero, Act.put, List.setIfInBounds_toArray, List.set_cons_zero, List.set_cons_succ]
        refine wpAnyH_take (i := 15) (v := undef) rfl (by kernel_rfl) (by kernel_rfl) (by kernel_rfl) (fun _ _ _ h => h) (Or.inr ⟨by rfl, rfl⟩) (by assumption) ?_
        simp only [List.getElem_toArray, List.getElem_cons_succ, List.getElem_cons_zero, Act.put, List.setIfInBounds_toArray, List.set_cons_zero, List.set_cons_succ]
        refine wpAnyH_take (i := 16) (v := undef) rfl (by kernel_rfl) (by kernel_rfl) (by kernel_rfl) (fun _ _ _ h => h) (Or.inr ⟨by rfl, rfl⟩) (by assumption) ?_
        simp only [List.getElem_toArray, List.getElem_cons_succ, List.getElem_cons_zero, Act.put, List.setIfInBounds_toArray, List.set_cons_zero, List.set_cons_succ]
        refine wpAnyH_take (i := 17) (v := undef) rfl (by kernel_rfl) (by kernel_rfl) (by kernel_rfl) (fun _ _ _ h => h) (Or.inr ⟨by rfl, rfl⟩) (by assumption) ?_
        simp only [List.getElem_toArray, List.getElem_cons_succ, List.getElem_cons_zero, Act.put, List.setIfInBounds_toArray, List.set_cons_zero, List.set_cons_succ]
        refine wpAnyH_take (i := 18) (v := undef) rfl (by kernel_rfl) (by kernel_rfl) (by kernel_rfl) (fun _ _ _ h => h) (Or.inr ⟨by rfl, rfl⟩) (by assumption) ?_
        simp only [List.getElem_toArray, List.getElem_cons_succ, List.getElem_cons_zero, Act.put, List.setIfInBounds_toArray, List.set_cons_zero, List.set_cons_succ]
        refine wpAnyH_take (i := 19) (v := undef) rfl (by kernel_rfl) (by kernel_rfl) (by kernel_rfl) (fun _ _ _ h => h) (Or.inr ⟨by rfl, rfl⟩) (by assumption) ?_
        simp only [List.getElem_toArray, List.getElem_cons_succ, List.getElem_cons_zero, Act.put, List.setIfInBounds_toArray, List.set_cons_zero, List.set_cons_succ]
        refine wpAnyH_take (i := 20) (v := undef) rfl (by kernel_rfl) (by kernel_rfl) (by kernel_rfl) (fun _ _ _ h => h) (Or.inr ⟨by rfl, rfl⟩) (by assumption) ?_
        simp only [List.getElem_toArray, List.getElem_cons_succ, List.getElem_cons_zero, Act.put, List.setIfInBounds_toArray, List.set_cons_zero, List.set_cons_succ]
        refine wpAnyH_take (i := 21) (v := undef) rfl (by kernel_rfl) (by kernel_rfl) (by kernel_rfl) (fun _ _ _ h => h) (Or.inr ⟨by rfl, rfl⟩) (by assumption) ?_
        simp only [List.getElem_toArray, List.getElem_cons_succ, List.getElem_cons_zero, Act.put, List.setIfInBounds_toArray, List.set_cons_zero, List.set_cons_succ]
        refine wpAnyH_take (i := 22) (v := undef) rfl (by kernel_rfl) (by kernel_rfl) (by kernel_rfl) (fun _ _ _ h => h) (Or.inr ⟨by rfl, rfl⟩) (by assumption) ?_
        simp only [List.getElem_toArray, List.getElem_cons_succ, List.getElem_cons_zero, Act.put, List.setIfInBounds_toArray, List.set_cons_zero, List.set_cons_succ]
        refine wpAnyH_take (i := 23) (v := undef) rfl (by kernel_rfl) (by kernel_rfl) (by kernel_rfl) (fun _ _ _ h => h) (Or.inr ⟨by rfl, rfl⟩) (by assumption) ?_
        simp only [List.getElem_toArray, List.getElem_cons_succ, List.getElem_cons_zero, Act.put, List.setIfInBounds_toArray, List.set_cons_zero, List.set_cons_succ]
        refine wpAnyH_take (i := 24) (v := undef) rfl (by kernel_rfl) (by kernel_rfl) (by kernel_rfl) (fun _ _ _ h => h) (Or.inr ⟨by rfl, rfl⟩) (by assumption) ?_
        simp only [List.getElem_toArray, List.getElem_cons_succ, List.getElem_cons_zero, Act.put, List.setIfInBounds_toArray, List.set_cons_zero, List.set_cons_succ]
        refine wpAnyH_take (i := 25) (v := undef) rfl (by kernel_rfl) (by kernel_rfl) (by kernel_rfl) (fun _ _ _ h => h) (Or.inr ⟨by rfl, rfl⟩) (by assumption) ?_
        simp only [List.getElem_toArray, List.getElem_cons_succ, List.getElem_cons_zero, Act.put, List.setIfInBounds_toArray, List.set_cons_zero, List.set_cons_succ]
        refine wpAnyH_take (i := 26) (v := undef) rfl (by kernel_rfl) (by kernel_rfl) (by kernel_rfl) (fun _ _ _ h => h) (Or.inr ⟨by rfl, rfl⟩) (by assumption) ?_
        simp only [List.getElem_toArray, List.getElem_cons_succ, List.getElem_cons_zero, Act.put, List.setIfInBounds_toArray, List.set_cons_zero, List.set_cons_succ]
        refine wpAnyH_take (i := 27) (v := undef) rfl (by kernel_rfl) (by kernel_rfl) (by kernel_rfl) (fun _ _ _ h => h) (Or.inr ⟨by rfl, rfl⟩) (by assumption) ?_
        simp only [List.getElem_toArray, List.getElem_cons_succ, List.getElem_cons_zero, Act.put, List.setIfInBounds_toArray, List.set_cons_zero, List.set_cons_succ]
        refine wpAnyH_take (i := 28) (v := undef) rfl (by kernel_rfl) (by kernel_rfl) (by kernel_rfl) (fun _ _ _ h => h) (Or.inr ⟨by rfl, rfl⟩) (by assumption) ?_
        simp only [List.getElem_toArray, List.getElem_cons_succ, List.getElem_cons_zero, Act.put, List.setIfInBounds_toArray, List.set_cons_zero, List.set_cons_succ]
        refine wpAnyH_take (i := 29) (v := ?v57) rfl (by kernel_rfl) (by kernel_rfl) (by kernel_rfl) (fun _ _ _ h => h) (Or.inl ⟨by rfl, ?y57⟩) (by assumption) ?r57
        case y57 => (intro w hSw; (try dsimp only at hSw); go_simp; try (with_reducible rfl))
        simp only [List.getElem_toArray, List.getElem_cons_succ, List.getElem_cons_zero, Act.put, List.setIfInBounds_toArray, List.set_cons_zero, List.set_cons_succ]
        refine wpAnyH_done (by kernel_rfl) ?_ _
        have B1 := hide ((B0.out.trans (hb0.mono B0.out.size)).trans (hHeld.2.2.mono (Nat.le_trans B0.out.size hb0.size)))
        clear hHeld
        go_wp2
        go_ret
        exact ⟨by rw [E.out]; rfl, B1.out⟩
      have CB := hide (fun w => l1In_any y (-1) km w true (by simp; omega))
      have HB := hide hB
      by_cases h0 : 0 ≤ y
      case neg =>
        have HK : Hid (∀ j, j < k + 1 → StepM M l j) := fun j hj => by
          by_cases e : j = k
          · subst e; have h1 := HA.out; have h2 := HB.out; exact HSTE.out.2 ⟨h1.1, h1.2, h2.1, h2.2, fun h => absurd h h0⟩
          · exact HJ.out j (by omega)
        clear hB
        refine wp_region_held_drew (S := (fun wx => wx.cell? ⟨wr.heap.size, 0, none⟩ = some (.int .i64 x) ∧ wx.cell? ⟨wr.heap.size, 1, none⟩ = some (.int .i64 y) ∧ Below W0.heap.size W0 wx)) (by kernel_rfl) ⟨c0, c1, (Below.refl _ _).drew⟩ (fun hHeld => ?_)
        refine wpAnyH_take (i := 0) (v := ?v58) rfl (by kernel_rfl) (by kernel_rfl) (by kernel_rfl) (fun _ _ _ h => h) (Or.inl ⟨by rfl, ?y58⟩) (by assumption) ?r58
        case y58 => (intro w hSw; (try dsimp only at hSw); go_simp; try (with_reducible rfl))
        simp only [List.getElem_toArray, List.getElem_cons_zero, Act.put, List.setIfInBounds_toArray, List.set_cons_zero, List.set_cons_succ]
        refine wpAnyH_take (i := 1) (v := ?v59) rfl (by kernel_rfl) (by kernel_rfl) (by kernel_rfl) (fun _ _ _ h => h) (Or.inl ⟨by rfl, ?y59⟩) (by assumption) ?r59
        case y59 => (intro w hSw; (try dsimp only at hSw); go_simp; try (with_reducible rfl))
        simp only [List.getElem_toArray, List.getElem_cons_succ, List.getElem_cons_zero, Act.put, List.setIfInBounds_toArray, List.set_cons_zero, List.set_cons_succ]
        refine wpAnyH_take (i := 2) (v := ?v60) rfl (by kernel_rfl) (by kernel_rfl) (by kernel_rfl) (fun _ _ _ h => h) (Or.inl ⟨by rfl, ?y60⟩) (by assumption) ?r60
        case y60 => (intro w hSw; (try dsimp only at hSw); go_simp; try (with_reducible rfl))
        simp only [List.getElem_toArray, List.getElem_cons_succ, List.getElem_cons_zero, Act.put, List.setIfInBounds_toArray, List.set_cons_zero, List.set_cons_succ]
        refine wpAnyH_take (i := 3) (v := ?v61) rfl (by kernel_rfl) (by kernel_rfl) (by kernel_rfl) (fun _ _ _ h => h) (Or.inl ⟨by rfl, ?y61⟩) (by assumption) ?r61
        case y61 => (intro w hSw; (try dsimp only at hSw); go_simp; try (with_reducible rfl))
        simp only [List.getElem_toArray, List.getElem_cons_succ, List.getElem_cons_zero, Act.put, List.setIfInBounds_toArray, List.set_cons_zero, List.set_cons_succ]
        refine wpAnyH_ready (rs := [4]) (by kernel_rfl) (by simp) ?_
        refine AllReadyH.cons rfl (fun K hK => ?_) AllReadyH.nil
        simp only [List.getElem_toArray, List.getElem_cons_succ, List.getElem_cons_zero]
        go_simp
        go_at_call 66
        refine (CA.out _).mono ?_
        rintro e w1 ⟨rfl, rfl⟩
        dsimp only
        refine hK.out _ _ ?_ (fun hHeld => ?_)
        · assumption
        clear hK K
        try simp only [Act.put, List.setIfInBounds_toArray, List.set_cons_zero, List.set_cons_succ]
        refine wpAnyH_take (i := 5) (v := ?v62) rfl (by kernel_rfl) (by kernel_rfl) (by kernel_rfl) (fun _ _ _ h => h) (Or.inl ⟨by rfl, ?y62⟩) (by assumption) ?r62
        case y62 => (intro w hSw; (try dsimp only at hSw); go_simp; try (with_reducible rfl))
        simp only [List.getElem_toArray, List.getElem_cons_succ, List.getElem_cons_zero, Act.put, List.setIfInBounds_toArray, List.set_cons_zero, List.set_cons_succ]
        refine wpAnyH_take (i := 6) (v := ?v63) rfl (by kernel_rfl) (by kernel_rfl) (by kernel_rfl) (fun _ _ _ h => h) (Or.inl ⟨by rfl, ?y63⟩) (by assumption) ?r63
        case y63 => (intro w hSw; (try dsimp only at hSw); go_simp; try (with_reducible rfl))
        simp only [List.getElem_toArray, List.getElem_cons_succ, List.getElem_cons_zero, Act.put, List.setIfInBounds_toArray, List.set_cons_zero, List.set_cons_succ]
        refine wpAnyH_take (i := 7) (v := ?v64) rfl (by kernel_rfl) (by kernel_rfl) (by kernel_rfl) (fun _ _ _ h => h) (Or.inl ⟨by rfl, ?y64⟩) (by assumption) ?r64
        case y64 => (intro w hSw; (try dsimp only at hSw); go_simp; try (with_reducible rfl))
        simp only [List.getElem_toArray, List.getElem_cons_succ, List.getElem_cons_zero, Act.put, List.setIfInBounds_toArray, List.set_cons_zero, List.set_cons_succ]
        refine wpAnyH_take (i := 8) (v := ?v65) rfl (by kernel_rfl) (by kernel_rfl) (by kernel_rfl) (fun _ _ _ h => h) (Or.inl ⟨by rfl, ?y65⟩) (by assumption) ?r65
        case y65 => (intro w hSw; (try dsimp only at hSw); go_simp; try (with_reducible rfl))
        simp only [List.getElem_toArray, List.getElem_cons_succ, List.getElem_cons_zero, Act.put, List.setIfInBounds_toArray, List.set_cons_zero, List.set_cons_succ]
        refine wpAnyH_take (i := 9) (v := ?v66) rfl (by kernel_rfl) (by kernel_rfl) (by kernel_rfl) (fun _ _ _ h => h) (Or.inl ⟨by rfl, ?y66⟩) (by assumption) ?r66
        case y66 => (intro w hSw; (try dsimp only at hSw); go_simp; try (with_reducible rfl))
        simp only [List.getElem_toArray, List.getElem_cons_succ, List.getElem_cons_zero, Act.put, List.setIfInBounds_toArray, List.set_cons_zero, List.set_cons_succ]
        refine wpAnyH_take (i := 10) (v := ?v67) rfl (by kernel_rfl) (by kernel_rfl) (by kernel_rfl) (fun _ _ _ h => h) (Or.inl ⟨by rfl, ?y67⟩) (by assumption) ?r67
        case y67 => (intro w hSw; (try dsimp only at hSw); go_simp; try (with_reducible rfl))
        simp only [List.getElem_toArray, List.getElem_cons_succ, List.getElem_cons_zero, Act.put, List.setIfInBounds_toArray, List.set_cons_zero, List.set_cons_succ]
        refine wpAnyH_ready (rs := [11]) (by kernel_rfl) (by simp) ?_
        refine AllReadyH.cons rfl (fun K hK => ?_) AllReadyH.nil
        simp only [List.getElem_toArray, List.getElem_cons_succ, List.getElem_cons_zero]
        go_simp
        go_at_call 66
        refine (CB.out _).mono ?_
        rintro e w1 ⟨rfl, rfl⟩
        dsimp only
        refine hK.out _ _ ?_ (fun hHeld => ?_)
        · assumption
        clear hK K
        try simp only [Act.put, List.setIfInBounds_toArray, List.set_cons_zero, List.set_cons_succ]
        refine wpAnyH_take (i := 12) (v := ?v68) rfl (by kernel_rfl) (by kernel_rfl) (by kernel_rfl) (fun _ _ _ h => h) (Or.inl ⟨by rfl, ?y68⟩) (by assumption) ?r68
        case y68 => (intro w hSw; (try dsimp only at hSw); go_simp; try (with_reducible rfl))
        simp only [List.getElem_toArray, List.getElem_cons_succ, List.getElem_cons_zero, Act.put, List.setIfInBounds_toArray, List.set_cons_zero, List.set_cons_succ]
        refine wpAnyH_take (i := 13) (v := ?v69) rfl (by kernel_rfl) (by kernel_rfl) (by kernel_rfl) (fun _ _ _ h => h) (Or.inl ⟨by rfl, ?y69⟩) (by assumption) ?r69
        case y69 => (intro w hSw; (try dsimp only at hSw); go_simp; try (with_reducible rfl))
        simp only [List.getElem_toArray, List.getElem_cons_succ, List.getElem_cons_zero, Act.put, List.setIfInBounds_toArray, List.set_cons_zero, List.set_cons_succ]
        refine wpAnyH_take (i := 14) (v := ?v70) rfl (by kernel_rfl) (by kernel_rfl) (by kernel_rfl) (fun _ _ _ h => h) (Or.inl ⟨by rfl, ?y70⟩) (by assumption) ?r70
        case y70 => (intro w hSw; (try dsimp only at hSw); go_simp; try (with_reducible rfl))
        simp only [List.getElem_toArray, List.getElem_cons_succ, List.getElem_cons_zero, Act.put, List.setIfInBounds_toArray, List.set_cons_zero, List.set_cons_succ]
        refine wpAnyH_take (i := 15) (v := ?v71) rfl (by kernel_rfl) (by kernel_rfl) (by kernel_rfl) (fun _ _ _ h => h) (Or.inl ⟨by rfl, ?y71⟩) (by assumption) ?r71
        case y71 => (intro w hSw; (try dsimp only at hSw); go_simp; try (with_reducible rfl))
        simp only [List.getElem_toArray, List.getElem_cons_succ, List.getElem_cons_zero, Act.put, List.setIfInBounds_toArray, List.set_cons_zero, List.set_cons_succ]
        refine wpAnyH_take (i := 16) (v := ?v72) rfl (by kernel_rfl) (by kernel_rfl) (by kernel_rfl) (fun _ _ _ h => h) (Or.inl ⟨by rfl, ?y72⟩) (by assumption) ?r72
        case y72 => (intro w hSw; (try dsimp only at hSw); go_simp; try (with_reducible rfl))
        simp only [List.getElem_toArray, List.getElem_cons_succ, List.getElem_cons_zero, Act.put, List.setIfInBounds_toArray, List.set_cons_zero, List.set_cons_succ]
        refine wpAnyH_take (i := 17) (v := ?v73) rfl (by kernel_rfl) (by kernel_rfl) (by kernel_rfl) (fun _ _ _ h => h) (Or.inl ⟨by rfl, ?y73⟩) (by assumption) ?r73
        case y73 => (intro w hSw; (try dsimp only at hSw); go_simp; try (with_reducible rfl))
        simp only [List.getElem_toArray, List.getElem_cons_succ, List.getElem_cons_zero, Act.put, List.setIfInBounds_toArray, List.set_cons_zero, List.set_cons_succ]
        refine wpAnyH_take (i := 18) (v := ?v74) rfl (by kernel_rfl) (by kernel_rfl) (by kernel_rfl) (fun _ _ _ h => h) (Or.inl ⟨by rfl, ?y74⟩) (by assumption) ?r74
        case y74 => (intro w hSw; (try dsimp only at hSw); go_simp; try (with_reducible rfl))
        simp only [List.getElem_toArray, List.getElem_cons_succ, List.getElem_cons_zero, Act.put, List.setIfInBounds_toArray, List.set_cons_zero, List.set_cons_succ]
        refine wpAnyH_take (i := 19) (v := undef) rfl (by kernel_rfl) (by kernel_rfl) (by kernel_rfl) (fun _ _ _ h => h) (Or.inr ⟨by rfl, rfl⟩) (by assumption) ?_
        simp only [List.getElem_toArray, List.getElem_cons_succ, List.getElem_cons_zero, Act.put, List.setIfInBounds_toArray, List.set_cons_zero, List.set_cons_succ]
        refine wpAnyH_take (i := 20) (v := undef) rfl (by kernel_rfl) (by kernel_rfl) (by kernel_rfl) (fun _ _ _ h => h) (Or.inr ⟨by rfl, rfl⟩) (by assumption) ?_
        simp only [List.getElem_toArray, List.getElem_cons_succ, List.getElem_cons_zero, Act.put, List.setIfInBounds_toArray, List.set_cons_zero, List.set_cons_succ]
        refine wpAnyH_take (i := 21) (v := undef) rfl (by kernel_rfl) (by kernel_rfl) (by kernel_rfl) (fun _ _ _ h => h) (Or.inr ⟨by rfl, rfl⟩) (by assumption) ?_
        simp only [List.getElem_toArray, List.getElem_cons_succ, List.getElem_cons_zero, Act.put, List.setIfInBounds_toArray, List.set_cons_zero, List.set_cons_succ]
        refine wpAnyH_take (i := 22) (v := undef) rfl (by kernel_rfl) (by kernel_rfl) (by kernel_rfl) (fun _ _ _ h => h) (Or.inr ⟨by rfl, rfl⟩) (by assumption) ?_
        simp only [List.getElem_toArray, List.getElem_cons_succ, List.getElem_cons_zero, Act.put, List.setIfInBounds_toArray, List.set_cons_zero, List.set_cons_succ]
        refine wpAnyH_take (i := 23) (v := undef) rfl (by kernel_rfl) (by kernel_rfl) (by kernel_rfl) (fun _ _ _ h => h) (Or.inr ⟨by rfl, rfl⟩) (by assumption) ?_
        simp only [List.getElem_toArray, List.getElem_cons_succ, List.getElem_cons_zero, Act.put, List.setIfInBounds_toArray, List.set_cons_zero, List.set_cons_succ]
        refine wpAnyH_take (i := 24) (v := undef) rfl (by kernel_rfl) (by kernel_rfl) (by kernel_rfl) (fun _ _ _ h => h) (Or.inr ⟨by rfl, rfl⟩) (by assumption) ?_
        simp only [List.getElem_toArray, List.getElem_cons_succ, List.getElem_cons_zero, Act.put, List.setIfInBounds_toArray, List.set_cons_zero, List.set_cons_succ]
        refine wpAnyH_take (i := 25) (v := undef) rfl (by kernel_rfl) (by kernel_rfl) (by kernel_rfl) (fun _ _ _ h => h) (Or.inr ⟨by rfl, rfl⟩) (by assumption) ?_
        simp only [List.getElem_toArray, List.getElem_cons_succ, List.getElem_cons_zero, Act.put, List.setIfInBounds_toArray, List.set_cons_zero, List.set_cons_succ]
        refine wpAnyH_take (i := 26) (v := undef) rfl (by kernel_rfl) (by kernel_rfl) (by kernel_rfl) (fun _ _ _ h => h) (Or.inr ⟨by rfl, rfl⟩) (by assumption) ?_
        simp only [List.getElem_toArray, List.getElem_cons_succ, List.getElem_cons_zero, Act.put, List.setIfInBounds_toArray, List.set_cons_zero, List.set_cons_succ]
        refine wpAnyH_take (i := 27) (v := undef) rfl (by kernel_rfl) (by kernel_rfl) (by kernel_rfl) (fun _ _ _ h => h) (Or.inr ⟨by rfl, rfl⟩) (by assumption) ?_
        simp only [List.getElem_toArray, List.getElem_cons_succ, List.getElem_cons_zero, Act.put, List.setIfInBounds_toArray, List.set_cons_zero, List.set_cons_succ]
        refine wpAnyH_take (i := 28) (v := ?v84) rfl (by kernel_rfl) (by kernel_rfl) (by kernel_rfl) (fun _ _ _ h => h) (Or.inl ⟨by rfl, ?y84⟩) (by assumption) ?r84
        case y84 => (intro w hSw; (try dsimp only at hSw); go_simp; try (with_reducible rfl))
        simp only [List.getElem_toArray, List.getElem_cons_succ, List.getElem_cons_zero, Act.put, List.setIfInBounds_toArray, List.set_cons_zero, List.set_cons_succ]
        refine wpAnyH_take (i := 29) (v := ?v85) rfl (by kernel_rfl) (by kernel_rfl) (by kernel_rfl) (fun _ _ _ h => h) (Or.inl ⟨by rfl, ?y85⟩) (by assumption) ?r85
        case y85 => (intro w hSw; (try dsimp only at hSw); go_simp; try (with_reducible rfl))
        simp only [List.getElem_toArray, List.getElem_cons_succ, List.getElem_cons_zero, Act.put, List.setIfInBounds_toArray, List.set_cons_zero, List.set_cons_succ]
        refine wpAnyH_done (by kernel_rfl) ?_ _
        have B1 := hide ((B0.out.trans (hb0.mono B0.out.size)).trans (hHeld.2.2.mono (Nat.le_trans B0.out.size hb0.size)))
        clear hHeld
        go_wp2
        go_roundw
        case rel => exact ⟨k + 1, by omega, by go_num, HK.out, B1.out⟩
        case measure => simp [intOf]; omega
      obtain ⟨f, hfe⟩ : ∃ f : Nat, y = (f : Int) := ⟨y.toNat, by omega⟩
      subst hfe
      have hfn : f < n := by have := HKM.out; omega
      have hfi : (f : Int) < (n : Int) := by omega
      have hz := (hb0.cell (p := ⟨b, off + f * 2, none⟩) (blk_lt (HZC.out f hfn))).trans (HZC.out f hfn)
      have hft : (f : Int).toNat = f := rfl
      have hste := HSTE.out
      rw [hft] at hste
      obtain ⟨z, hze⟩ : ∃ z, z = nd l f := ⟨_, rfl⟩
      rw [← hze] at hz hste
      have HSTF := hide hste
      clear hste hze hft HSTE hfn hB
      by_cases hzx : z = x
      · have E : Hid (bb = false) := by
          cases bb with
          | false => rfl
          | true => have := HSTF.out.1 (HNO.out rfl); exact absurd hzx (this.2.2.2.2 h0)
        have hzb : (z == x) = true := by simp [hzx]
        clear hzx
        refine wp_region_held_drew (S := (fun wx => wx.cell? ⟨b, off + f * 2, none⟩ = some (.int .i64 z) ∧ wx.cell? ⟨wr.heap.size, 0, none⟩ = some (.int .i64 x) ∧ wx.cell? ⟨wr.heap.size, 1, none⟩ = some (.int .i64 (f : Int)) ∧ Below W0.heap.size W0 wx)) (by kernel_rfl) ⟨hz, c0, c1, (Below.refl _ _).drew⟩ (fun hHeld => ?_)
        refine wpAnyH_take (i := 0) (v := ?v86) rfl (by kernel_rfl) (by kernel_rfl) (by kernel_rfl) (fun _ _ _ h => h) (Or.inl ⟨by rfl, ?y86⟩) (by assumption) ?r86
        case y86 => (intro w hSw; (try dsimp only at hSw); go_simp; try (with_reducible rfl))
        simp only [List.getElem_toArray, List.getElem_cons_zero, Act.put, List.setIfInBounds_toArray, List.set_cons_zero, List.set_cons_succ]
        refine wpAnyH_take (i := 1) (v := ?v87) rfl (by kernel_rfl) (by kernel_rfl) (by kernel_rfl) (fun _ _ _ h => h) (Or.inl ⟨by rfl, ?y87⟩) (by assumption) ?r87
        case y87 => (intro w hSw; (try dsimp only at hSw); go_simp; try (with_reducible rfl))
        simp only [List.getElem_toArray, List.getElem_cons_succ, List.getElem_cons_zero, Act.put, List.setIfInBounds_toArray, List.set_cons_zero, List.set_cons_succ]
        refine wpAnyH_take (i := 2) (v := ?v88) rfl (by kernel_rfl) (by kernel_rfl) (by kernel_rfl) (fun _ _ _ h => h) (Or.inl ⟨by rfl, ?y88⟩) (by assumption) ?r88
        case y88 => (intro w hSw; (try dsimp only at hSw); go_simp; try (with_reducible rfl))
        simp only [List.getElem_toArray, List.getElem_cons_succ, List.getElem_cons_zero, Act.put, List.setIfInBounds_toArray, List.set_cons_zero, List.set_cons_succ]
        refine wpAnyH_take (i := 3) (v := ?v89) rfl (by kernel_rfl) (by kernel_rfl) (by kernel_rfl) (fun _ _ _ h => h) (Or.inl ⟨by rfl, ?y89⟩) (by assumption) ?r89
        case y89 => (intro w hSw; (try dsimp only at hSw); go_simp; try (with_reducible rfl))
        simp only [List.getElem_toArray, List.getElem_cons_succ, List.getElem_cons_zero, Act.put, List.setIfInBounds_toArray, List.set_cons_zero, List.set_cons_succ]
        refine wpAnyH_ready (rs := [4]) (by kernel_rfl) (by simp) ?_
        refine AllReadyH.cons rfl (fun K hK => ?_) AllReadyH.nil
        simp only [List.getElem_toArray, List.getElem_cons_succ, List.getElem_cons_zero]
        go_simp
        go_at_call 66
        refine (CA.out _).mono ?_
        rintro e w1 ⟨rfl, rfl⟩
        dsimp only
        refine hK.out _ _ ?_ (fun hHeld => ?_)
        · assumption
        clear hK K
        try simp only [Act.put, List.setIfInBounds_toArray, List.set_cons_zero, List.set_cons_succ]
        refine wpAnyH_take (i := 5) (v := ?v90) rfl (by kernel_rfl) (by kernel_rfl) (by kernel_rfl) (fun _ _ _ h => h) (Or.inl ⟨by rfl, ?y90⟩) (by assumption) ?r90
        case y90 => (intro w hSw; (try dsimp only at hSw); go_simp; try (with_reducible rfl))
        simp only [List.getElem_toArray, List.getElem_cons_succ, List.getElem_cons_zero, Act.put, List.setIfInBounds_toArray, List.set_cons_zero, List.set_cons_succ]
        refine wpAnyH_take (i := 6) (v := ?v91) rfl (by kernel_rfl) (by kernel_rfl) (by kernel_rfl) (fun _ _ _ h => h) (Or.inl ⟨by rfl, ?y91⟩) (by assumption) ?r91
        case y91 => (intro w hSw; (try dsimp only at hSw); go_simp; try (with_reducible rfl))
        simp only [List.getElem_toArray, List.getElem_cons_succ, List.getElem_cons_zero, Act.put, List.setIfInBounds_toArray, List.set_cons_zero, List.set_cons_succ]
        refine wpAnyH_take (i := 7) (v := ?v92) rfl (by kernel_rfl) (by kernel_rfl) (by kernel_rfl) (fun _ _ _ h => h) (Or.inl ⟨by rfl, ?y92⟩) (by assumption) ?r92
        case y92 => (intro w hSw; (try dsimp only at hSw); go_simp; try (with_reducible rfl))
        simp only [List.getElem_toArray, List.getElem_cons_succ, List.getElem_cons_zero, Act.put, List.setIfInBounds_toArray, List.set_cons_zero, List.set_cons_succ]
        refine wpAnyH_take (i := 8) (v := ?v93) rfl (by kernel_rfl) (by kernel_rfl) (by kernel_rfl) (fun _ _ _ h => h) (Or.inl ⟨by rfl, ?y93⟩) (by assumption) ?r93
        case y93 => (intro w hSw; (try dsimp only at hSw); go_simp; try (with_reducible rfl))
        simp only [List.getElem_toArray, List.getElem_cons_succ, List.getElem_cons_zero, Act.put, List.setIfInBounds_toArray, List.set_cons_zero, List.set_cons_succ]
        refine wpAnyH_take (i := 9) (v := ?v94) rfl (by kernel_rfl) (by kernel_rfl) (by kernel_rfl) (fun _ _ _ h => h) (Or.inl ⟨by rfl, ?y94⟩) (by assumption) ?r94
        case y94 => (intro w hSw; (try dsimp only at hSw); go_simp; try (with_reducible rfl))
        simp only [List.getElem_toArray, List.getElem_cons_succ, List.getElem_cons_zero, Act.put, List.setIfInBounds_toArray, List.set_cons_zero, List.set_cons_succ]
        refine wpAnyH_take (i := 10) (v := ?v95) rfl (by kernel_rfl) (by kernel_rfl) (by kernel_rfl) (fun _ _ _ h => h) (Or.inl ⟨by rfl, ?y95⟩) (by assumption) ?r95
        case y95 => (intro w hSw; (try dsimp only at hSw); go_simp; try (with_reducible rfl))
        simp only [List.getElem_toArray, List.getElem_cons_succ, List.getElem_cons_zero, Act.put, List.setIfInBounds_toArray, List.set_cons_zero, List.set_cons_succ]
        refine wpAnyH_ready (rs := [11]) (by kernel_rfl) (by simp) ?_
        refine AllReadyH.cons rfl (fun K hK => ?_) AllReadyH.nil
        simp only [List.getElem_toArray, List.getElem_cons_succ, List.getElem_cons_zero]
        go_simp
        go_at_call 66
        refine (CB.out _).mono ?_
        rintro e w1 ⟨rfl, rfl⟩
        dsimp only
        refine hK.out _ _ ?_ (fun hHeld => ?_)
        · assumption
        clear hK K
        try simp only [Act.put, List.setIfInBounds_toArray, List.set_cons_zero, List.set_cons_succ]
        refine wpAnyH_take (i := 12) (v := ?v96) rfl (by kernel_rfl) (by kernel_rfl) (by kernel_rfl) (fun _ _ _ h => h) (Or.inl ⟨by rfl, ?y96⟩) (by assumption) ?r96
        case y96 => (intro w hSw; (try dsimp only at hSw); go_simp; try (with_reducible rfl))
        simp only [List.getElem_toArray, List.getElem_cons_succ, List.getElem_cons_zero, Act.put, List.setIfInBounds_toArray, List.set_cons_zero, List.set_cons_succ]
        refine wpAnyH_take (i := 13) (v := ?v97) rfl (by kernel_rfl) (by kernel_rfl) (by kernel_rfl) (fun _ _ _ h => h) (Or.inl ⟨by rfl, ?y97⟩) (by assumption) ?r97
        case y97 => (intro w hSw; (try dsimp only at hSw); go_simp; try (with_reducible rfl))
        simp only [List.getElem_toArray, List.getElem_cons_succ, List.getElem_cons_zero, Act.put, List.setIfInBounds_toArray, List.set_cons_zero, List.set_cons_succ]
        refine wpAnyH_take (i := 14) (v := ?v98) rfl (by kernel_rfl) (by kernel_rfl) (by kernel_rfl) (fun _ _ _ h => h) (Or.inl ⟨by rfl, ?y98⟩) (by assumption) ?r98
        case y98 => (intro w hSw; (try dsimp only at hSw); go_simp; try (with_reducible rfl))
        simp only [List.getElem_toArray, List.getElem_cons_succ, List.getElem_cons_zero, Act.put, List.setIfInBounds_toArray, List.set_cons_zero, List.set_cons_succ]
        refine wpAnyH_take (i := 15) (v := ?v99) rfl (by kernel_rfl) (by kernel_rfl) (by kernel_rfl) (fun _ _ _ h => h) (Or.inl ⟨by rfl, ?y99⟩) (by assumption) ?r99
        case y99 => (intro w hSw; (try dsimp only at hSw); go_simp; try (with_reducible rfl))
        simp only [List.getElem_toArray, List.getElem_cons_succ, List.getElem_cons_zero, Act.put, List.setIfInBounds_toArray, List.set_cons_zero, List.set_cons_succ]
        refine wpAnyH_take (i := 16) (v := ?v100) rfl (by kernel_rfl) (by kernel_rfl) (by kernel_rfl) (fun _ _ _ h => h) (Or.inl ⟨by rfl, ?y100⟩) (by assumption) ?r100
        case y100 => (intro w hSw; (try dsimp only at hSw); go_simp; try (with_reducible rfl))
        simp only [List.getElem_toArray, List.getElem_cons_succ, List.getElem_cons_zero, Act.put, List.setIfInBounds_toArray, List.set_cons_zero, List.set_cons_succ]
        refine wpAnyH_take (i := 17) (v := ?v101) rfl (by kernel_rfl) (by kernel_rfl) (by kernel_rfl) (fun _ _ _ h => h) (Or.inl ⟨by rfl, ?y101⟩) (by assumption) ?r101
        case y101 => (intro w hSw; (try dsimp only at hSw); go_simp; try (with_reducible rfl))
        simp only [List.getElem_toArray, List.getElem_cons_succ, List.getElem_cons_zero, Act.put, List.setIfInBounds_toArray, List.set_cons_zero, List.set_cons_succ]
        refine wpAnyH_take (i := 18) (v := ?v102) rfl (by kernel_rfl) (by kernel_rfl) (by kernel_rfl) (fun _ _ _ h => h) (Or.inl ⟨by rfl, ?y102⟩) (by assumption) ?r102
        case y102 => (intro w hSw; (try dsimp only at hSw); go_simp; try (with_reducible rfl))
        simp only [List.getElem_toArray, List.getElem_cons_succ, List.getElem_cons_zero, Act.put, List.setIfInBounds_toArray, List.set_cons_zero, List.set_cons_succ]
        refine wpAnyH_take (i := 19) (v := ?v103) rfl (by kernel_rfl) (by kernel_rfl) (by kernel_rfl) (fun _ _ _ h => h) (Or.inl ⟨by rfl, ?y103⟩) (by assumption) ?r103
        case y103 => (intro w hSw; (try dsimp only at hSw); go_simp; try (with_reducible rfl))
        simp only [List.getElem_toArray, List.getElem_cons_succ, List.getElem_cons_zero, Act.put, List.setIfInBounds_toArray, List.set_cons_zero, List.set_cons_succ]
        refine wpAnyH_take (i := 20) (v := ?v104) rfl (by kernel_rfl) (by kernel_rfl) (by kernel_rfl) (fun _ _ _ h => h) (Or.inl ⟨by rfl, ?y104⟩) (by assumption) ?r104
        case y104 => (intro w hSw; (try dsimp only at hSw); go_simp; try (with_reducible rfl))
        simp only [List.getElem_toArray, List.getElem_cons_succ, List.getElem_cons_zero, Act.put, List.setIfInBounds_toArray, List.set_cons_zero, List.set_cons_succ]
        refine wpAnyH_take (i := 21) (v := ?v105) rfl (by kernel_rfl) (by kernel_rfl) (by kernel_rfl) (fun _ _ _ h => h) (Or.inl ⟨by rfl, ?y105⟩) (by assumption) ?r105
        case y105 => (intro w hSw; (try dsimp only at hSw); go_simp; try (with_reducible rfl))
        simp only [List.getElem_toArray, List.getElem_cons_succ, List.getElem_cons_zero, Act.put, List.setIfInBounds_toArray, List.set_cons_zero, List.set_cons_succ]
        refine wpAnyH_take (i := 22) (v := ?v106) rfl (by kernel_rfl) (by kernel_rfl) (by kernel_rfl) (fun _ _ _ h => h) (Or.inl ⟨by rfl, ?y106⟩) (by assumption) ?r106
        case y106 => (intro w hSw; (try dsimp only at hSw); go_simp; try (with_reducible rfl))
        simp only [List.getElem_toArray, List.getElem_cons_succ, List.getElem_cons_zero, Act.put, List.setIfInBounds_toArray, List.set_cons_zero, List.set_cons_succ]
        refine wpAnyH_take (i := 23) (v := ?v107) rfl (by kernel_rfl) (by kernel_rfl) (by kernel_rfl) (fun _ _ _ h => h) (Or.inl ⟨by rfl, ?y107⟩) (by assumption) ?r107
        case y107 => (intro w hSw; (try dsimp only at hSw); go_simp; try (with_reducible rfl))
        simp only [List.getElem_toArray, List.getElem_cons_succ, List.getElem_cons_zero, Act.put, List.setIfInBounds_toArray, List.set_cons_zero, List.set_cons_succ]
        refine wpAnyH_take (i := 24) (v := ?v108) rfl (by kernel_rfl) (by kernel_rfl) (by kernel_rfl) (fun _ _ _ h => h) (Or.inl ⟨by rfl, ?y108⟩) (by assumption) ?r108
        case y108 => (intro w hSw; (try dsimp only at hSw); go_simp; try (with_reducible rfl))
        simp only [List.getElem_toArray, List.getElem_cons_succ, List.getElem_cons_zero, Act.put, List.setIfInBounds_toArray, List.set_cons_zero, List.set_cons_succ]
        refine wpAnyH_take (i := 25) (v := ?v109) rfl (by kernel_rfl) (by kernel_rfl) (by kernel_rfl) (fun _ _ _ h => h) (Or.inl ⟨by rfl, ?y109⟩) (by assumption) ?r109
        case y109 => (intro w hSw; (try dsimp only at hSw); go_simp; try (with_reducible rfl))
        simp only [List.getElem_toArray, List.getElem_cons_succ, List.getElem_cons_zero, Act.put, List.setIfInBounds_toArray, List.set_cons_zero, List.set_cons_succ]
        refine wpAnyH_take (i := 26) (v := ?v110) rfl (by kernel_rfl) (by kernel_rfl) (by kernel_rfl) (fun _ _ _ h => h) (Or.inl ⟨by rfl, ?y110⟩) (by assumption) ?r110
        case y110 => (intro w hSw; (try dsimp only at hSw); go_simp; try (with_reducible rfl))
        simp only [List.getElem_toArray, List.getElem_cons_succ, List.getElem_cons_zero, Act.put, List.setIfInBounds_toArray, List.set_cons_zero, List.set_cons_succ]
        refine wpAnyH_take (i := 27) (v := ?v111) rfl (by kernel_rfl) (by kernel_rfl) (by kernel_rfl) (fun _ _ _ h => h) (Or.inl ⟨by rfl, ?y111⟩) (by assumption) ?r111
        case y111 => (intro w hSw; (try dsimp only at hSw); go_simp; try (with_reducible rfl))
        simp only [List.getElem_toArray, List.getElem_cons_succ, List.getElem_cons_zero, Act.put, List.setIfInBounds_toArray, List.set_cons_zero, List.set_cons_succ]
        refine wpAnyH_take (i := 28) (v := ?v112) rfl (by kernel_rfl) (by kernel_rfl) (by kernel_rfl) (fun _ _ _ h => h) (Or.inl ⟨by rfl, ?y112⟩) (by assumption) ?r112
        case y112 => (intro w hSw; (try dsimp only at hSw); go_simp; try (with_reducible rfl))
        simp only [List.getElem_toArray, List.getElem_cons_succ, List.getElem_cons_zero, Act.put, List.setIfInBounds_toArray, List.set_cons_zero, List.set_cons_succ]
        refine wpAnyH_take (i := 29) (v := ?v113) rfl (by kernel_rfl) (by kernel_rfl) (by kernel_rfl) (fun _ _ _ h => h) (Or.inl ⟨by rfl, ?y113⟩) (by assumption) ?r113
        case y113 => (intro w hSw; (try dsimp only at hSw); go_simp; try (with_reducible rfl))
        simp only [List.getElem_toArray, List.getElem_cons_succ, List.getElem_cons_zero, Act.put, List.setIfInBounds_toArray, List.set_cons_zero, List.set_cons_succ]
        refine wpAnyH_done (by kernel_rfl) ?_ _
        have B1 := hide ((B0.out.trans (hb0.mono B0.out.size)).trans (hHeld.2.2.2.mono (Nat.le_trans B0.out.size hb0.size)))
        clear hHeld
        go_wp2
        go_ret
        exact ⟨by rw [E.out]; rfl, B1.out⟩
      · have HK : Hid (∀ j, j < k + 1 → StepM M l j) := fun j hj => by
          by_cases e : j = k
          · subst e; have h1 := HA.out; have h2 := HB.out; exact HSTF.out.2 ⟨h1.1, h1.2, h2.1, h2.2, fun h => hzx⟩
          · exact HJ.out j (by omega)
        have hzb : (z == x) = false := by simp [hzx]
        have HZX := hide hzx
        clear hzx
        refine wp_region_held_drew (S := (fun wx => wx.cell? ⟨b, off + f * 2, none⟩ = some (.int .i64 z) ∧ wx.cell? ⟨wr.heap.size, 0, none⟩ = some (.int .i64 x) ∧ wx.cell? ⟨wr.heap.size, 1, none⟩ = some (.int .i64 (f : Int)) ∧ Below W0.heap.size W0 wx)) (by kernel_rfl) ⟨hz, c0, c1, (Below.refl _ _).drew⟩ (fun hHeld => ?_)
        refine wpAnyH_take (i := 0) (v := ?v114) rfl (by kernel_rfl) (by kernel_rfl) (by kernel_rfl) (fun _ _ _ h => h) (Or.inl ⟨by rfl, ?y114⟩) (by assumption) ?r114
        case y114 => (intro w hSw; (try dsimp only at hSw); go_simp; try (with_reducible rfl))
        simp only [List.getElem_toArray, List.getElem_cons_zero, Act.put, List.setIfInBounds_toArray, List.set_cons_zero, List.set_cons_succ]
        refine wpAnyH_take (i := 1) (v := ?v115) rfl (by kernel_rfl) (by kernel_rfl) (by kernel_rfl) (fun _ _ _ h => h) (Or.inl ⟨by rfl, ?y115⟩) (by assumption) ?r115
        case y115 => (intro w hSw; (try dsimp only at hSw); go_simp; try (with_reducible rfl))
        simp only [List.getElem_toArray, List.getElem_cons_succ, List.getElem_cons_zero, Act.put, List.setIfInBounds_toArray, List.set_cons_zero, List.set_cons_succ]
        refine wpAnyH_take (i := 2) (v := ?v116) rfl (by kernel_rfl) (by kernel_rfl) (by kernel_rfl) (fun _ _ _ h => h) (Or.inl ⟨by rfl, ?y116⟩) (by assumption) ?r116
        case y116 => (intro w hSw; (try dsimp only at hSw); go_simp; try (with_reducible rfl))
        simp only [List.getElem_toArray, List.getElem_cons_succ, List.getElem_cons_zero, Act.put, List.setIfInBounds_toArray, List.set_cons_zero, List.set_cons_succ]
        refine wpAnyH_take (i := 3) (v := ?v117) rfl (by kernel_rfl) (by kernel_rfl) (by kernel_rfl) (fun _ _ _ h => h) (Or.inl ⟨by rfl, ?y117⟩) (by assumption) ?r117
        case y117 => (intro w hSw; (try dsimp only at hSw); go_simp; try (with_reducible rfl))
        simp only [List.getElem_toArray, List.getElem_cons_succ, List.getElem_cons_zero, Act.put, List.setIfInBounds_toArray, List.set_cons_zero, List.set_cons_succ]
        refine wpAnyH_ready (rs := [4]) (by kernel_rfl) (by simp) ?_
        refine AllReadyH.cons rfl (fun K hK => ?_) AllReadyH.nil
        simp only [List.getElem_toArray, List.getElem_cons_succ, List.getElem_cons_zero]
        go_simp
        go_at_call 66
        refine (CA.out _).mono ?_
        rintro e w1 ⟨rfl, rfl⟩
        dsimp only
        refine hK.out _ _ ?_ (fun hHeld => ?_)
        · assumption
        clear hK K
        try simp only [Act.put, List.setIfInBounds_toArray, List.set_cons_zero, List.set_cons_succ]
        refine wpAnyH_take (i := 5) (v := ?v118) rfl (by kernel_rfl) (by kernel_rfl) (by kernel_rfl) (fun _ _ _ h => h) (Or.inl ⟨by rfl, ?y118⟩) (by assumption) ?r118
        case y118 => (intro w hSw; (try dsimp only at hSw); go_simp; try (with_reducible rfl))
        simp only [List.getElem_toArray, List.getElem_cons_succ, List.getElem_cons_zero, Act.put, List.setIfInBounds_toArray, List.set_cons_zero, List.set_cons_succ]
        refine wpAnyH_take (i := 6) (v := ?v119) rfl (by kernel_rfl) (by kernel_rfl) (by kernel_rfl) (fun _ _ _ h => h) (Or.inl ⟨by rfl, ?y119⟩) (by assumption) ?r119
        case y119 => (intro w hSw; (try dsimp only at hSw); go_simp; try (with_reducible rfl))
        simp only [List.getElem_toArray, List.getElem_cons_succ, List.getElem_cons_zero, Act.put, List.setIfInBounds_toArray, List.set_cons_zero, List.set_cons_succ]
        refine wpAnyH_take (i := 7) (v := ?v120) rfl (by kernel_rfl) (by kernel_rfl) (by kernel_rfl) (fun _ _ _ h => h) (Or.inl ⟨by rfl, ?y120⟩) (by assumption) ?r120
        case y120 => (intro w hSw; (try dsimp only at hSw); go_simp; try (with_reducible rfl))
        simp only [List.getElem_toArray, List.getElem_cons_succ, List.getElem_cons_zero, Act.put, List.setIfInBounds_toArray, List.set_cons_zero, List.set_cons_succ]
        refine wpAnyH_take (i := 8) (v := ?v121) rfl (by kernel_rfl) (by kernel_rfl) (by kernel_rfl) (fun _ _ _ h => h) (Or.inl ⟨by rfl, ?y121⟩) (by assumption) ?r121
        case y121 => (intro w hSw; (try dsimp only at hSw); go_simp; try (with_reducible rfl))
        simp only [List.getElem_toArray, List.getElem_cons_succ, List.getElem_cons_zero, Act.put, List.setIfInBounds_toArray, List.set_cons_zero, List.set_cons_succ]
        refine wpAnyH_take (i := 9) (v := ?v122) rfl (by kernel_rfl) (by kernel_rfl) (by kernel_rfl) (fun _ _ _ h => h) (Or.inl ⟨by rfl, ?y122⟩) (by assumption) ?r122
        case y122 => (intro w hSw; (try dsimp only at hSw); go_simp; try (with_reducible rfl))
        simp only [List.getElem_toArray, List.getElem_cons_succ, List.getElem_cons_zero, Act.put, List.setIfInBounds_toArray, List.set_cons_zero, List.set_cons_succ]
        refine wpAnyH_take (i := 10) (v := ?v123) rfl (by kernel_rfl) (by kernel_rfl) (by kernel_rfl) (fun _ _ _ h => h) (Or.inl ⟨by rfl, ?y123⟩) (by assumption) ?r123
        case y123 => (intro w hSw; (try dsimp only at hSw); go_simp; try (with_reducible rfl))
        simp only [List.getElem_toArray, List.getElem_cons_succ, List.getElem_cons_zero, Act.put, List.setIfInBounds_toArray, List.set_cons_zero, List.set_cons_succ]
        refine wpAnyH_ready (rs := [11]) (by kernel_rfl) (by simp) ?_
        refine AllReadyH.cons rfl (fun K hK => ?_) AllReadyH.nil
        simp only [List.getElem_toArray, List.getElem_cons_succ, List.getElem_cons_zero]
        go_simp
        go_at_call 66
        refine (CB.out _).mono ?_
        rintro e w1 ⟨rfl, rfl⟩
        dsimp only
        refine hK.out _ _ ?_ (fun hHeld => ?_)
        · assumption
        clear hK K
        try simp only [Act.put, List.setIfInBounds_toArray, List.set_cons_zero, List.set_cons_succ]
        refine wpAnyH_take (i := 12) (v := ?v124) rfl (by kernel_rfl) (by kernel_rfl) (by kernel_rfl) (fun _ _ _ h => h) (Or.inl ⟨by rfl, ?y124⟩) (by assumption) ?r124
        case y124 => (intro w hSw; (try dsimp only at hSw); go_simp; try (with_reducible rfl))
        simp only [List.getElem_toArray, List.getElem_cons_succ, List.getElem_cons_zero, Act.put, List.setIfInBounds_toArray, List.set_cons_zero, List.set_cons_succ]
        refine wpAnyH_take (i := 13) (v := ?v125) rfl (by kernel_rfl) (by kernel_rfl) (by kernel_rfl) (fun _ _ _ h => h) (Or.inl ⟨by rfl, ?y125⟩) (by assumption) ?r125
        case y125 => (intro w hSw; (try dsimp only at hSw); go_simp; try (with_reducible rfl))
        simp only [List.getElem_toArray, List.getElem_cons_succ, List.getElem_cons_zero, Act.put, List.setIfInBounds_toArray, List.set_cons_zero, List.set_cons_succ]
        refine wpAnyH_take (i := 14) (v := ?v126) rfl (by kernel_rfl) (by kernel_rfl) (by kernel_rfl) (fun _ _ _ h => h) (Or.inl ⟨by rfl, ?y126⟩) (by assumption) ?r126
        case y126 => (intro w hSw; (try dsimp only at hSw); go_simp; try (with_reducible rfl))
        simp only [List.getElem_toArray, List.getElem_cons_succ, List.getElem_cons_zero, Act.put, List.setIfInBounds_toArray, List.set_cons_zero, List.set_cons_succ]
        refine wpAnyH_take (i := 15) (v := ?v127) rfl (by kernel_rfl) (by kernel_rfl) (by kernel_rfl) (fun _ _ _ h => h) (Or.inl ⟨by rfl, ?y127⟩) (by assumption) ?r127
        case y127 => (intro w hSw; (try dsimp only at hSw); go_simp; try (with_reducible rfl))
        simp only [List.getElem_toArray, List.getElem_cons_succ, List.getElem_cons_zero, Act.put, List.setIfInBounds_toArray, List.set_cons_zero, List.set_cons_succ]
        refine wpAnyH_take (i := 16) (v := ?v128) rfl (by kernel_rfl) (by kernel_rfl) (by kernel_rfl) (fun _ _ _ h => h) (Or.inl ⟨by rfl, ?y128⟩) (by assumption) ?r128
        case y128 => (intro w hSw; (try dsimp only at hSw); go_simp; try (with_reducible rfl))
        simp only [List.getElem_toArray, List.getElem_cons_succ, List.getElem_cons_zero, Act.put, List.setIfInBounds_toArray, List.set_cons_zero, List.set_cons_succ]
        refine wpAnyH_take (i := 17) (v := ?v129) rfl (by kernel_rfl) (by kernel_rfl) (by kernel_rfl) (fun _ _ _ h => h) (Or.inl ⟨by rfl, ?y129⟩) (by assumption) ?r129
        case y129 => (intro w hSw; (try dsimp only at hSw); go_simp; try (with_reducible rfl))
        simp only [List.getElem_toArray, List.getElem_cons_succ, List.getElem_cons_zero, Act.put, List.setIfInBounds_toArray, List.set_cons_zero, List.set_cons_succ]
        refine wpAnyH_take (i := 18) (v := ?v130) rfl (by kernel_rfl) (by kernel_rfl) (by kernel_rfl) (fun _ _ _ h => h) (Or.inl ⟨by rfl, ?y130⟩) (by assumption) ?r130
        case y130 => (intro w hSw; (try dsimp only at hSw); go_simp; try (with_reducible rfl))
        simp only [List.getElem_toArray, List.getElem_cons_succ, List.getElem_cons_zero, Act.put, List.setIfInBounds_toArray, List.set_cons_zero, List.set_cons_succ]
        refine wpAnyH_take (i := 19) (v := ?v131) rfl (by kernel_rfl) (by kernel_rfl) (by kernel_rfl) (fun _ _ _ h => h) (Or.inl ⟨by rfl, ?y131⟩) (by assumption) ?r131
        case y131 => (intro w hSw; (try dsimp only at hSw); go_simp; try (with_reducible rfl))
        simp only [List.getElem_toArray, List.getElem_cons_succ, List.getElem_cons_zero, Act.put, List.setIfInBounds_toArray, List.set_cons_zero, List.set_cons_succ]
        refine wpAnyH_take (i := 20) (v := ?v132) rfl (by kernel_rfl) (by kernel_rfl) (by kernel_rfl) (fun _ _ _ h => h) (Or.inl ⟨by rfl, ?y132⟩) (by assumption) ?r132
        case y132 => (intro w hSw; (try dsimp only at hSw); go_simp; try (with_reducible rfl))
        simp only [List.getElem_toArray, List.getElem_cons_succ, List.getElem_cons_zero, Act.put, List.setIfInBounds_toArray, List.set_cons_zero, List.set_cons_succ]
        refine wpAnyH_take (i := 21) (v := ?v133) rfl (by kernel_rfl) (by kernel_rfl) (by kernel_rfl) (fun _ _ _ h => h) (Or.inl ⟨by rfl, ?y133⟩) (by assumption) ?r133
        case y133 => (intro w hSw; (try dsimp only at hSw); go_simp; try (with_reducible rfl))
        simp only [List.getElem_toArray, List.getElem_cons_succ, List.getElem_cons_zero, Act.put, List.setIfInBounds_toArray, List.set_cons_zero, List.set_cons_succ]
        refine wpAnyH_take (i := 22) (v := ?v134) rfl (by kernel_rfl) (by kernel_rfl) (by kernel_rfl) (fun _ _ _ h => h) (Or.inl ⟨by rfl, ?y134⟩) (by assumption) ?r134
        case y134 => (intro w hSw; (try dsimp only at hSw); go_simp; try (with_reducible rfl))
        simp only [List.getElem_toArray, List.getElem_cons_succ, List.getElem_cons_zero, Act.put, List.setIfInBounds_toArray, List.set_cons_zero, List.set_cons_succ]
        refine wpAnyH_take (i := 23) (v := ?v135) rfl (by kernel_rfl) (by kernel_rfl) (by kernel_rfl) (fun _ _ _ h => h) (Or.inl ⟨by rfl, ?y135⟩) (by assumption) ?r135
        case y135 => (intro w hSw; (try dsimp only at hSw); go_simp; try (with_reducible rfl))
        simp only [List.getElem_toArray, List.getElem_cons_succ, List.getElem_cons_zero, Act.put, List.setIfInBounds_toArray, List.set_cons_zero, List.set_cons_succ]
        refine wpAnyH_take (i := 24) (v := ?v136) rfl (by kernel_rfl) (by kernel_rfl) (by kernel_rfl) (fun _ _ _ h => h) (Or.inl ⟨by rfl, ?y136⟩) (by assumption) ?r136
        case y136 => (intro w hSw; (try dsimp only at hSw); go_simp; try (with_reducible rfl))
        simp only [List.getElem_toArray, List.getElem_cons_succ, List.getElem_cons_zero, Act.put, List.setIfInBounds_toArray, List.set_cons_zero, List.set_cons_succ]
        refine wpAnyH_take (i := 25) (v := ?v137) rfl (by kernel_rfl) (by kernel_rfl) (by kernel_rfl) (fun _ _ _ h => h) (Or.inl ⟨by rfl, ?y137⟩) (by assumption) ?r137
        case y137 => (intro w hSw; (try dsimp only at hSw); go_simp; try (with_reducible rfl))
        simp only [List.getElem_toArray, List.getElem_cons_succ, List.getElem_cons_zero, Act.put, List.setIfInBounds_toArray, List.set_cons_zero, List.set_cons_succ]
        refine wpAnyH_take (i := 26) (v := ?v138) rfl (by kernel_rfl) (by kernel_rfl) (by kernel_rfl) (fun _ _ _ h => h) (Or.inl ⟨by rfl, ?y138⟩) (by assumption) ?r138
        case y138 => (intro w hSw; (try dsimp only at hSw); go_simp; try (with_reducible rfl))
        simp only [List.getElem_toArray, List.getElem_cons_succ, List.getElem_cons_zero, Act.put, List.setIfInBounds_toArray, List.set_cons_zero, List.set_cons_succ]
        refine wpAnyH_take (i := 27) (v := ?v139) rfl (by kernel_rfl) (by kernel_rfl) (by kernel_rfl) (fun _ _ _ h => h) (Or.inl ⟨by rfl, ?y139⟩) (by assumption) ?r139
        case y139 => (intro w hSw; (try dsimp only at hSw); go_simp; try (with_reducible rfl))
        simp only [List.getElem_toArray, List.getElem_cons_succ, List.getElem_cons_zero, Act.put, List.setIfInBounds_toArray, List.set_cons_zero, List.set_cons_succ]
        refine wpAnyH_take (i := 28) (v := ?v140) rfl (by kernel_rfl) (by kernel_rfl) (by kernel_rfl) (fun _ _ _ h => h) (Or.inl ⟨by rfl, ?y140⟩) (by assumption) ?r140
        case y140 => (intro w hSw; (try dsimp only at hSw); go_simp; try (with_reducible rfl))
        simp only [List.getElem_toArray, List.getElem_cons_succ, List.getElem_cons_zero, Act.put, List.setIfInBounds_toArray, List.set_cons_zero, List.set_cons_succ]
        refine wpAnyH_take (i := 29) (v := ?v141) rfl (by kernel_rfl) (by kernel_rfl) (by kernel_rfl) (fun _ _ _ h => h) (Or.inl ⟨by rfl, ?y141⟩) (by assumption) ?r141
        case y141 => (intro w hSw; (try dsimp only at hSw); go_simp; try (with_reducible rfl))
        simp only [List.getElem_toArray, List.getElem_cons_succ, List.getElem_cons_zero, Act.put, List.setIfInBounds_toArray, List.set_cons_zero, List.set_cons_succ]
        refine wpAnyH_done (by kernel_rfl) ?_ _
        have B1 := hide ((B0.out.trans (hb0.mono B0.out.size)).trans (hHeld.2.2.2.mono (Nat.le_trans B0.out.size hb0.size)))
        clear hHeld
        go_wp2
        go_roundw
        case rel => exact ⟨k + 1, by omega, by go_num, HK.out, B1.out⟩
        case measure => simp [intOf]; omega
    · have hltI : ¬ (k : Int) < (n : Int) := by omega
      by_cases h5 : 1 ≤ N ∧ N ≤ 5
      · have C := hide (fun w => l1In_any N 1 5 w true (by simp; omega))
        by_cases h40 : (n : Int) ≤ 40
        · have E : Hid (bb = true) := HBB.out.2 ⟨h5.1, h5.2, by rw [HN.out]; omega, fun j hj => by
            have h1 := HJ.out j (by rw [HN.out] at hj; omega)
            have h2 := HMN.out h5.1
            exact ⟨h1.1, by have := h1.2.1; omega, h1.2.2.1, by have := h1.2.2.2.1; omega, h1.2.2.2.2⟩⟩
          clear h5
          go_wp2_with fail
          refine (C.out _).mono ?_
          rintro e w1 ⟨rfl, rfl⟩
          go_wp2
          go_ret
          exact ⟨by rw [E.out]; rfl, hbel⟩
        · have E : Hid (bb = false) := bool_noT HBB.out (fun h => by have := h.2.2.1; rw [HN.out] at this; omega)
          clear h5
          go_wp2_with fail
          refine (C.out _).mono ?_
          rintro e w1 ⟨rfl, rfl⟩
          go_wp2
          go_ret
          exact ⟨by rw [E.out]; show Ending.returned (Value.bool (decide ((n : Int) ≤ 40))) = _; rw [decide_eq_false (by omega)], hbel⟩
      · have C := hide (fun w => l1In_any N 1 5 w false (by simp; omega))
        have E : Hid (bb = false) := bool_noT HBB.out (fun h => h5 ⟨h.1, h.2.1⟩)
        clear h5
        go_wp2_with fail
        refine (C.out _).mono ?_
        rintro e w1 ⟨rfl, rfl⟩
        go_wp2
        go_ret
        exact ⟨by rw [E.out]; rfl, hbel⟩
end Go.Proofs.Ytkfnejiiancmhad.L11

namespace Go.Proofs.Ytkfnejiiancmhad.L11
open Go.RowKit L1 Own
set_option linter.unusedVariables false

theorem below_drewC {N : Nat} {w w' : World} (h : Below N w w') : ∀ q, Below N w (w'.drewN q)
  | 0 => h
  | q + 1 => (below_drewC h q).drew
set_option maxRecDepth 100000 in
set_option maxHeartbeats 4000000 in
theorem specIsCut_any (N : Int) (a u : Option Addr) (l : List (Int × Int)) (us : List Int) (n k cap ucap : Nat) (w : World) (hn : l.length = n) (hk : us.length = k) (hs : Sl2 w a l) (hu : Sl w u us) (hn2 : n ≤ 1048576) (hN : N ≤ 9223372036854775807) (hk2 : k ≤ 1048576) (c r : Bool) (hc : c = true ↔ CutOk N l us) (hr : r = true ↔ CutOk N l us ∧ ClS l (uI us)) :
    Calls Try.prog 50 #[.int .i64 N, .slice a n cap, .slice u k ucap] w fun e w' => e = .returned (.tuple #[.bool r, .bool c]) ∧ Below w.heap.size w w' := by
  have hrc : c = false → r = false := fun e => by
    subst e
    cases r with
    | false => rfl
    | true => exact absurd (hc.2 (hr.1 rfl).1) (by simp)
  by_cases hg : GoodV N l
  case neg =>
    have CG := hide (fun w hs => specGoodEvents_any N a l n cap w hn hs hn2 hN false (by simp [hg]))
    obtain rfl : c = false := by
      cases c with
      | false => rfl
      | true => exact absurd (hc.1 rfl) (fun h => hg h.1.1)
    obtain rfl := hrc rfl
    have HS := hide hs
    clear hg hc hr hrc hs hu hn hk
    go_enter Try.func50, Try.ntmps50
    go_wp2_with fail
    refine (CG.out _ HS.out).mono ?_
    rintro e w1 ⟨rfl, hb1⟩
    have B1 := hide hb1
    clear hb1
    go_wp2
    go_ret2
    exact ⟨rfl, B1.out⟩
  have CG := hide (fun w hs => specGoodEvents_any N a l n cap w hn hs hn2 hN true (by simp [hg]))
  obtain ⟨Nn, hNn⟩ : ∃ Nn : Nat, N = (Nn : Int) := ⟨N.toNat, by have := hg.1; omega⟩
  subst hNn
  have CU := hide (fun w hs hu => l11Upto_any Nn a u l us n k cap ucap w hn hk hs hu hk2 hg c hc)
  have HS := hide hs
  have HU := hide hu
  cases c with
  | false =>
    obtain rfl := hrc rfl
    clear hg hc hr hrc hs hu hn hk
    go_enter Try.func50, Try.ntmps50
    go_wp2_with fail
    refine (CG.out _ HS.out).mono ?_
    rintro e w1 ⟨rfl, hb1⟩
    have B1 := hide hb1
    clear hb1
    go_wp2_with fail
    refine (CU.out _ (HS.out.below B1.out) (HU.out.below B1.out)).mono ?_
    rintro e w2 ⟨rfl, hb2⟩
    have B2 := hide (B1.out.trans (hb2.mono B1.out.size))
    clear hb2
    go_wp2
    go_ret2
    exact ⟨rfl, B2.out⟩
  | true =>
    have hok := hc.1 rfl
    have CA := hide (fun w hs => l11At_any Nn a l n cap w hn hs hg)
    have hr2 : r = true ↔ ClS l (uI us) := hr.trans ⟨fun h => h.2, fun h => ⟨hok, h⟩⟩
    have hkN : k = Nn := by have := hok.1.2; omega
    have h40 : n ≤ 40 := by have := hg.2.2.1; omega
    have HG := hide hg
    have HN := hide hn
    have HK := hide hk
    have HR := hide hr2
    have HKN := hide hkN
    clear hg hc hr hrc hs hu hn hk hok hr2 hkN
    go_enter Try.func50, Try.ntmps50
    go_wp2_with fail
    refine (CG.out _ HS.out).mono ?_
    rintro e w1 ⟨rfl, hb1⟩
    have B1 := hide hb1
    clear hb1
    go_wp2_with fail
    refine (CU.out _ (HS.out.below B1.out) (HU.out.below B1.out)).mono ?_
    rintro e w2 ⟨rfl, hb2⟩
    have B2 := hide (B1.out.trans (hb2.mono B1.out.size))
    clear hb2 CU CG B1
    go_wp2_with fail
    refine (CA.out _ (HS.out.below B2.out)).mono ?_
    rintro e w3 ⟨v, rfl, ho, hb3⟩
    have B3 := hide (B2.out.trans (hb3.mono B2.out.size))
    obtain ⟨oa, ocap, rfl, hso, _⟩ := own_form ho
    have HO := hide hso
    clear hb3 ho hso CA B2
    go_wp2
    go_loopw [27] (fun i wr => ∃ k2 : Nat, k2 ≤ n ∧ i = .int .i64 k2 ∧ Hid (∀ j, j < k2 → cnt l (nd l j) (j + 1) ≤ uI us (nd l j) → 0 ≤ fr l j → cnt l (nd l (fr l j).toNat) ((fr l j).toNat + 1) ≤ uI us (nd l (fr l j).toNat)) ∧ Below w3.heap.size w3 wr) (fun i _ => n - (intOf i).toNat)
    case atStart => exact ⟨0, Nat.zero_le _, rfl, fun j hj => absurd hj (Nat.not_lt_zero _), Below.refl _ _⟩
    case round =>
      obtain ⟨k2, hk2', rfl, HJ, hbel⟩ := hrel
      by_cases hlt : k2 < n
      · have hv := HG.out.2.2.2 k2 (by rw [HN.out]; exact hlt)
        have hN5 := HG.out.2.1
        obtain ⟨xn, hx⟩ : ∃ xn : Nat, nd l k2 = (xn : Int) := ⟨(nd l k2).toNat, by have := hv.1; omega⟩
        have hxN : xn < Nn := by have := hv.2.1; omega
        have hsl := HS.out.below (B3.out.trans (hbel.mono B3.out.size))
        obtain ⟨b, off, rfl, q1, q2⟩ := hsl k2 (by rw [HN.out]; exact hlt)
        clear q1 q2
        obtain ⟨hc, hd⟩ := hsl.two k2 (by rw [HN.out]; exact hlt)
        rw [hx] at hc
        obtain ⟨y, hy⟩ : ∃ y, y = fr l k2 := ⟨_, rfl⟩
        rw [← hy] at hd
        obtain ⟨ob, oo, rfl, ha0⟩ := HO.out k2 (by rw [atL_len]; exact hlt)
        rw [atL_get l n k2 hlt] at ha0
        have ha1 := (hbel.cell (p := ⟨ob, oo + k2, none⟩) (blk_lt ha0)).trans ha0
        have hul := (HU.out.below B3.out).below hbel
        obtain ⟨ub, uo, rfl, hu1⟩ := hul xn (by rw [HK.out, HKN.out]; exact hxN)
        have hltI : (k2 : Int) < (n : Int) := by omega
        have hk20 : (0 : Int) ≤ (k2 : Int) := by omega
        have hxI : (xn : Int) < (k : Int) := by have := HKN.out; omega
        have hx0 : (0 : Int) ≤ (xn : Int) := by omega
        have hui : uI us (nd l k2) = us.getD xn 0 := by unfold uI; rw [hx]; rfl
        obtain ⟨ak, hak⟩ : ∃ ak, ak = cnt l (nd l k2) (k2 + 1) := ⟨_, rfl⟩
        obtain ⟨uk, huk⟩ : ∃ uk, uk = us.getD xn 0 := ⟨_, rfl⟩
        rw [← hak] at ha1
        rw [← huk] at hu1 hui
        have hone : (∀ j, j < k2 + 1 → cnt l (nd l j) (j + 1) ≤ uI us (nd l j) → 0 ≤ fr l j → cnt l (nd l (fr l j).toNat) ((fr l j).toNat + 1) ≤ uI us (nd l (fr l j).toNat)) ↔ (ak ≤ uk → 0 ≤ y → cnt l (nd l y.toNat) (y.toNat + 1) ≤ uI us (nd l y.toNat)) := by
          constructor
          · intro h; have h2 := h k2 (by omega); rw [← hak, hui, ← hy] at h2; exact h2
          · intro h j hj
            by_cases e : j = k2
            · subst e; rw [← hak, hui, ← hy]; exact h
            · exact HJ.out j (by omega)
        have hno : r = true → (ak ≤ uk → 0 ≤ y → cnt l (nd l y.toNat) (y.toNat + 1) ≤ uI us (nd l y.toNat)) := fun h => hone.1 (fun j hj => HR.out.1 h j (by rw [HN.out]; omega))
        have hyk : y < (k2 : Int) := by rw [hy]; exact hv.2.2.2.1
        have HONE := hide hone
        have HNO := hide hno
        have HSL := hide hsl
        have HUL := hide hul
        have HBL := hide hbel
        clear hx hv hsl hy ha0 hul hui hak huk hone hno hbel
        go_upto_region 7 with fail
        obtain ⟨V, hV⟩ : ∃ V, wr.alloc (.cells #[.int .i64 xn, .int .i64 y] 118) = V := ⟨_, rfl⟩
        have hbv : Below wr.heap.size wr V := by rw [← hV]; exact (Below.refl _ _).alloc (Nat.le_refl _) _
        have e0 : V.cell? ⟨wr.heap.size, 0, none⟩ = some (.int .i64 xn) := by rw [← hV]; simp
        have e1 : V.cell? ⟨wr.heap.size, 1, none⟩ = some (.int .i64 y) := by rw [← hV]; simp
        have ha2 := (hbv.cell (p := ⟨ob, oo + k2, none⟩) (blk_lt ha1)).trans ha1
        have hu2 := (hbv.cell (p := ⟨ub, uo + xn, none⟩) (blk_lt hu1)).trans hu1
        have BV := hide (HBL.out.trans (hbv.mono HBL.out.size))
        have HSV := hide (HSL.out.below hbv)
        have HUV := hide (HUL.out.below hbv)
        have HOV := hide (HO.out.below BV.out)
        rw [hV]
        obtain ⟨eb, heb⟩ : ∃ eb, eb = wr.heap.size := ⟨_, rfl⟩
        rw [← heb] at e0 e1 ⊢
        clear hV hbv heb ha1 hu1 hc hd HSL HUL HBL
        by_cases hle : ak ≤ uk
        case neg =>
          have HJ2 := hide (HONE.out.2 (fun h => absurd h hle))
          have hlb : decide (ak ≤ uk) = false := by simp; omega
          clear HONE HNO hle
          go_wp2
          go_quiet (fail)
          go_wp2
          go_roundw
          case rel => exact ⟨k2 + 1, by omega, by go_num, HJ2, below_drewC (BV.out) _⟩
          case measure => simp [intOf]; omega
        by_cases hy0 : 0 ≤ y
        case neg =>
          have HJ2 := hide (HONE.out.2 (fun _ h => absurd h hy0))
          have hyb : decide (0 ≤ y) = false := by simp; omega
          have hlb : decide (ak ≤ uk) = true := by simp; omega
          clear HONE HNO hy0 hle
          go_wp2
          go_quiet (fail)
          go_wp2
          go_roundw
          case rel => exact ⟨k2 + 1, by omega, by go_num, HJ2, below_drewC (BV.out) _⟩
          case measure => simp [intOf]; omega
        obtain ⟨f, hf⟩ : ∃ f : Nat, y = (f : Int) := ⟨y.toNat, by omega⟩
        subst hf
        have hfn : f < n := by omega
        have hft : (f : Int).toNat = f := rfl
        rw [hft] at HONE HNO
        have hvf := HG.out.2.2.2 f (by rw [HN.out]; exact hfn)
        obtain ⟨zn, hz⟩ : ∃ zn : Nat, nd l f = (zn : Int) := ⟨(nd l f).toNat, by have := hvf.1; omega⟩
        have hzN : zn < Nn := by have := hvf.2.1; omega
        have hz1 := (HSV.out.two f (by rw [HN.out]; exact hfn)).1
        rw [hz] at hz1
        have haf := HOV.out.at f (by rw [atL_len]; exact hfn)
        rw [atL_get l n f hfn] at haf
        have huz := HUV.out.at zn (by rw [HK.out, HKN.out]; exact hzN)
        have huiz : uI us (nd l f) = us.getD zn 0 := by unfold uI; rw [hz]; rfl
        rw [huiz] at HONE HNO
        obtain ⟨af, haf'⟩ : ∃ af, af = cnt l (nd l f) (f + 1) := ⟨_, rfl⟩
        obtain ⟨uz, huz'⟩ : ∃ uz, uz = us.getD zn 0 := ⟨_, rfl⟩
        rw [← haf'] at haf HONE HNO
        rw [← huz'] at huz HONE HNO
        have hfI : (f : Int) < (n : Int) := by omega
        have hf0 : (0 : Int) ≤ (f : Int) := by omega
        have hzI : (zn : Int) < (k : Int) := by have := HKN.out; omega
        have hz0 : (0 : Int) ≤ (zn : Int) := by omega
        clear hft hvf hz huiz haf' huz' hfn hzN hyk
        by_cases hgt : uz < af
        · have E : Hid (r = false) := by
            cases r with
            | false => rfl
            | true => have := HNO.out rfl hle hy0; omega
          clear HONE HNO
          go_wp2
          go_quiet (fail)
          go_wp2
          go_ret2
          exact ⟨by rw [E.out]; rfl, B3.out.trans ((below_drewC BV.out _).mono B3.out.size)⟩
        · have HJ2 := hide (HONE.out.2 (fun _ _ => by omega))
          clear HONE HNO
          go_wp2
          go_quiet (fail)
          go_wp2
          go_roundw
          case rel => exact ⟨k2 + 1, by omega, by go_num, HJ2, below_drewC (BV.out) _⟩
          case measure => simp [intOf]; omega
      · have hltI : ¬ (k2 : Int) < (n : Int) := by omega
        have E : Hid (r = true) := HR.out.2 (fun j hj => HJ.out j (by rw [HN.out] at hj; omega))
        have B9 := hide (B3.out.trans (hbel.mono B3.out.size))
        clear hbel
        go_wp2
        go_ret2
        exact ⟨by rw [E.out]; rfl, B9.out⟩
end Go.Proofs.Ytkfnejiiancmhad.L11

namespace Go.Proofs.Ytkfnejiiancmhad.L4
set_option linter.unusedVariables false

/-- Posts are good. -/
def GoodP (l : List Int) : Prop := l.length ≤ 60 ∧ ∀ j, j < l.length → (0 ≤ l.getD j 0 ∧ l.getD j 0 ≤ 9999) ∧ (0 < j → l.getD (j - 1) 0 < l.getD j 0)
def Rise (l : List Int) : Prop := l.Pairwise fun x y => x < y

theorem getD_eq {l : List Int} {j : Nat} (h : j < l.length) : l.getD j 0 = l[j] := by simp [List.getD, List.getElem?_eq_getElem h]
theorem getD_mem {l : List Int} {j : Nat} (h : j < l.length) : l.getD j 0 ∈ l := by rw [getD_eq h]; exact List.getElem_mem h
theorem mem_getD {l : List Int} {x : Int} (h : x ∈ l) : ∃ j, j < l.length ∧ l.getD j 0 = x := by
  obtain ⟨j, hj, e⟩ := List.getElem_of_mem h
  exact ⟨j, hj, by rw [getD_eq hj]; exact e⟩
theorem rise_get {l : List Int} (h : Rise l) {i j : Nat} (hij : i < j) (hj : j < l.length) : l.getD i 0 < l.getD j 0 := by
  rw [getD_eq hj, getD_eq (Nat.lt_trans hij hj)]
  exact List.pairwise_iff_getElem.1 h i j _ _ hij
theorem rise_le {l : List Int} (h : Rise l) {i j : Nat} (hij : i ≤ j) (hj : j < l.length) : l.getD i 0 ≤ l.getD j 0 := by
  by_cases e : i = j
  · subst e; omega
  · have := rise_get h (show i < j by omega) hj; omega
theorem rise_of_step {l : List Int} (h : ∀ j, j < l.length → 0 < j → l.getD (j - 1) 0 < l.getD j 0) : Rise l := by
  refine List.pairwise_iff_getElem.2 fun i j hi hj hij => ?_
  have key : ∀ d, i + 1 + d < l.length → l.getD i 0 < l.getD (i + 1 + d) 0 := fun d => by
    induction d with
    | zero => intro hd; have := h (i + 1) hd (by omega); simpa using this
    | succ d ih =>
      intro hd
      have h1 := ih (by omega)
      have h2 := h (i + 1 + (d + 1)) hd (by omega)
      have e : i + 1 + (d + 1) - 1 = i + 1 + d := by omega
      rw [e] at h2
      omega
  have := key (j - i - 1) (by omega)
  rw [show i + 1 + (j - i - 1) = j by omega, getD_eq hi, getD_eq hj] at this
  exact this
theorem good_rise {l : List Int} (h : GoodP l) : Rise l := rise_of_step fun j hj h0 => (h.2 j hj).2 h0
theorem rise_uniq : ∀ {l m : List Int}, Rise l → Rise m → (∀ x, x ∈ l ↔ x ∈ m) → l = m
  | [], [], _, _, _ => rfl
  | [], y :: m, _, _, h => by have := (h y).2 (by simp); simp at this
  | x :: l, [], _, _, h => by have := (h x).1 (by simp); simp at this
  | x :: l, y :: m, hl, hm, h => by
    have hl' := List.pairwise_cons.1 hl
    have hm' := List.pairwise_cons.1 hm
    have e : x = y := by
      have h1 := (h x).1 (by simp)
      have h2 := (h y).2 (by simp)
      simp only [List.mem_cons] at h1 h2
      rcases h1 with h1 | h1
      · exact h1
      · rcases h2 with h2 | h2
        · exact h2.symm
        · have := hm'.1 x h1; have := hl'.1 y h2; omega
    subst e
    rw [rise_uniq hl'.2 hm'.2 fun z => by
      have hz := h z
      simp only [List.mem_cons] at hz
      constructor
      · intro hz1
        rcases hz.1 (.inr hz1) with e | e
        · subst e; have := hl'.1 z hz1; omega
        · exact e
      · intro hz1
        rcases hz.2 (.inr hz1) with e | e
        · subst e; have := hm'.1 z hz1; omega
        · exact e]

/-- How many at the front are less. -/
def lp (n : Int) : List Int → Nat
  | [] => 0
  | x :: l => if x < n then lp n l + 1 else 0
theorem lp_le (n : Int) : ∀ l : List Int, lp n l ≤ l.length
  | [] => Nat.le_refl _
  | x :: l => by
    have := lp_le n l
    unfold lp
    split <;> simp <;> omega
theorem lp_lt (n : Int) : ∀ (l : List Int) (j : Nat), j < lp n l → l.getD j 0 < n
  | [], j, h => by simp [lp] at h
  | x :: l, j, h => by
    unfold lp at h
    split at h
    · cases j with
      | zero => simpa
      | succ j => simpa using lp_lt n l j (by omega)
    · omega
theorem lp_stop (n : Int) : ∀ (l : List Int), lp n l < l.length → ¬ l.getD (lp n l) 0 < n
  | [], h => by simp at h
  | x :: l, h => by
    unfold lp at h ⊢
    split
    · rename_i hx
      rw [if_pos hx] at h
      simpa using lp_stop n l (by simpa using h)
    · rename_i hx
      simpa using Int.not_lt.1 hx
theorem lp_at {n : Int} : ∀ (l : List Int) (k : Nat), k ≤ l.length → (∀ j, j < k → l.getD j 0 < n) → (k < l.length → ¬ l.getD k 0 < n) → lp n l = k := fun l k hk h1 h2 => by
  rcases Nat.lt_trichotomy (lp n l) k with h | h | h
  · exact absurd (h1 _ h) (lp_stop n l (by omega))
  · exact h
  · have := lp_le n l
    exact absurd (lp_lt n l k h) (h2 (by omega))
theorem count_lp (n : Int) : ∀ {l : List Int}, Rise l → l.countP (fun y => decide (y < n)) = lp n l
  | [], _ => rfl
  | x :: l, h => by
    have h' := List.pairwise_cons.1 h
    rw [List.countP_cons, count_lp n h'.2]
    conv => rhs; unfold lp
    by_cases hx : x < n
    · simp [hx]
    · have h0 : lp n l = 0 := by
        have := h'.1
        cases l with
        | nil => rfl
        | cons z zs =>
          have := this z (by simp)
          unfold lp
          rw [if_neg (by omega)]
      simp [hx, h0]
/-- The first place from a place on with a number that is great enough. -/
def leap (l : List Int) (f : Nat) (n : Int) : Nat := f + lp n (l.drop f)
theorem drop_getD (l : List Int) (f j : Nat) : (l.drop f).getD j 0 = l.getD (f + j) 0 := by simp [List.getD]
theorem leap_ge (l : List Int) (f : Nat) (n : Int) : f ≤ leap l f n := by unfold leap; omega
theorem leap_le (l : List Int) (f : Nat) (n : Int) (hf : f ≤ l.length) : leap l f n ≤ l.length := by
  have := lp_le n (l.drop f)
  unfold leap
  simp at this
  omega
theorem leap_lt (l : List Int) (f : Nat) (n : Int) (j : Nat) (h1 : f ≤ j) (h2 : j < leap l f n) : l.getD j 0 < n := by
  unfold leap at h2
  have := lp_lt n (l.drop f) (j - f) (by omega)
  rw [drop_getD, show f + (j - f) = j by omega] at this
  exact this
theorem leap_stop (l : List Int) (f : Nat) (n : Int) (h : leap l f n < l.length) : ¬ l.getD (leap l f n) 0 < n := by
  unfold leap at h ⊢
  have := lp_stop n (l.drop f) (by simp; omega)
  rw [drop_getD] at this
  exact this
theorem leap_at {l : List Int} {f k : Nat} {n : Int} (hfk : f ≤ k) (hk : k ≤ l.length) (h1 : ∀ j, f ≤ j → j < k → l.getD j 0 < n) (h2 : k < l.length → ¬ l.getD k 0 < n) : leap l f n = k := by
  have := lp_at (n := n) (l.drop f) (k - f) (by simp; omega) (fun j hj => by rw [drop_getD]; exact h1 _ (by omega) (by omega)) (fun h => by
    rw [drop_getD, show f + (k - f) = k by omega]
    exact h2 (by simp at h; omega))
  unfold leap
  omega

/-- What both have; what the first alone has. -/
def those (b : List Int) (s : Bool) (a : List Int) : List Int := a.filter fun x => decide (x ∈ b) == s
theorem those_len (a b : List Int) (s : Bool) : (those b s a).length ≤ a.length := List.length_filter_le _ _
theorem those_snoc (a b : List Int) (s : Bool) (k : Nat) (h : k < a.length) : those b s (a.take (k + 1)) = if (decide (a.getD k 0 ∈ b) == s) = true then those b s (a.take k) ++ [a.getD k 0] else those b s (a.take k) := by
  unfold those
  rw [List.take_succ_eq_append_getElem h, List.filter_append, getD_eq h]
  by_cases e : (decide (a[k] ∈ b) == s) = true
  · rw [if_pos e]; simp [e]
  · rw [if_neg e]; simp only [Bool.not_eq_true] at e; simp [e]
theorem leap_mem {b : List Int} {f : Nat} {x : Int} (hb : Rise b) (hf : f ≤ b.length) (h : ∀ j, j < f → b.getD j 0 < x) : x ∈ b ↔ leap b f x < b.length ∧ b.getD (leap b f x) 0 = x := by
  constructor
  · intro hx
    obtain ⟨j, hj, e⟩ := mem_getD hx
    have h1 : ¬ j < leap b f x := fun hlt => by
      by_cases hjf : j < f
      · have := h j hjf; omega
      · have := leap_lt b f x j (by omega) hlt; omega
    have h2 : leap b f x ≤ j := by omega
    have h3 := leap_stop b f x (by omega)
    have h4 := rise_le hb h2 hj
    exact ⟨by omega, by omega⟩
  · rintro ⟨h1, h2⟩
    rw [← h2]
    exact getD_mem h1

/-- A number put into a list. -/
def put (l : List Int) (x : Int) : List Int := if lp x l < l.length ∧ l.getD (lp x l) 0 = x then l else l.take (lp x l) ++ x :: l.drop (lp x l)
theorem put_len (l : List Int) (x : Int) : (put l x).length ≤ l.length + 1 := by
  unfold put
  split
  · omega
  · simp; omega
theorem put_mem (l : List Int) (x y : Int) : y ∈ put l x ↔ y = x ∨ y ∈ l := by
  unfold put
  split
  · rename_i h
    constructor
    · exact .inr
    · rintro (rfl | h1)
      · have h2 := h.2
        have := getD_mem h.1
        rwa [h2] at this
      · exact h1
  · have e := List.take_append_drop (lp x l) l
    constructor
    · intro h
      simp only [List.mem_append, List.mem_cons] at h
      rcases h with h | h | h
      · exact .inr (List.mem_of_mem_take h)
      · exact .inl h
      · exact .inr (List.mem_of_mem_drop h)
    · rintro (rfl | h)
      · simp
      · rw [← e] at h
        simp only [List.mem_append, List.mem_cons] at h ⊢
        rcases h with h | h
        · exact .inl h
        · exact .inr (.inr h)
theorem take_lt {l : List Int} {k : Nat} {x y : Int} (h : ∀ j, j < k → l.getD j 0 < x) (hy : y ∈ l.take k) : y < x := by
  obtain ⟨j, hj, e⟩ := mem_getD hy
  have hj' : j < k ∧ j < l.length := by simp at hj; omega
  have := h j hj'.1
  rw [getD_eq hj] at e
  rw [getD_eq hj'.2] at this
  simp at e
  omega
theorem drop_mem {l : List Int} {k : Nat} {y : Int} (hy : y ∈ l.drop k) : ∃ j, k ≤ j ∧ j < l.length ∧ l.getD j 0 = y := by
  obtain ⟨j, hj, e⟩ := mem_getD hy
  rw [drop_getD] at e
  exact ⟨k + j, by omega, by simp at hj; omega, e⟩
theorem put_rise {l : List Int} {x : Int} (h : Rise l) : Rise (put l x) := by
  unfold put
  split
  · exact h
  · rename_i hno
    refine List.pairwise_append.2 ⟨h.sublist (List.take_sublist _ _), List.pairwise_cons.2 ⟨fun y hy => ?_, h.sublist (List.drop_sublist _ _)⟩, fun y hy z hz => ?_⟩
    · obtain ⟨j, hj, hl, e⟩ := drop_mem hy
      have h1 := lp_stop x l (by omega)
      have h2 := rise_le h hj hl
      by_cases e2 : l.getD (lp x l) 0 = x
      · exact absurd ⟨by omega, e2⟩ hno
      · omega
    · have h1 := take_lt (lp_lt x l) hy
      simp only [List.mem_cons] at hz
      rcases hz with rfl | hz
      · exact h1
      · obtain ⟨j, hj, hl, e⟩ := drop_mem hz
        have h2 := lp_stop x l (by omega)
        have h3 := rise_le h hj hl
        omega
/-- Those of either. -/
def joinL (a b : List Int) : List Int := b.foldl put a
theorem joinL_snoc (a b : List Int) (k : Nat) (h : k < b.length) : joinL a (b.take (k + 1)) = put (joinL a (b.take k)) (b.getD k 0) := by
  unfold joinL
  rw [List.take_succ_eq_append_getElem h, List.foldl_append, getD_eq h]
  rfl
theorem joinL_len (a b : List Int) : ∀ k, (joinL a (b.take k)).length ≤ a.length + k
  | 0 => by simp [joinL]
  | k + 1 => by
    have ih := joinL_len a b k
    by_cases h : k < b.length
    · rw [joinL_snoc a b k h]
      have := put_len (joinL a (b.take k)) (b.getD k 0)
      omega
    · rw [List.take_of_length_le (by omega)] at ih ⊢
      omega
theorem joinL_mem : ∀ (b a : List Int) (y : Int), y ∈ joinL a b ↔ y ∈ a ∨ y ∈ b
  | [], a, y => by simp [joinL]
  | x :: b, a, y => by
    have := joinL_mem b (put a x) y
    unfold joinL at this ⊢
    rw [List.foldl_cons, this, put_mem]
    simp only [List.mem_cons]
    constructor
    · rintro ((h | h) | h)
      · exact .inr (.inl h)
      · exact .inl h
      · exact .inr (.inr h)
    · rintro (h | h | h)
      · exact .inl (.inr h)
      · exact .inl (.inl h)
      · exact .inr h
theorem joinL_rise : ∀ (b a : List Int), Rise a → Rise (joinL a b)
  | [], a, h => h
  | x :: b, a, h => joinL_rise b (put a x) (put_rise h)

/-- The program's way: a's numbers one by one, those of b that are less ahead of each. -/
def jst (a b : List Int) : Nat → List Int × Nat
  | 0 => ([], 0)
  | k + 1 =>
    let u := leap b (jst a b k).2 (a.getD k 0)
    ((jst a b k).1 ++ (b.drop (jst a b k).2).take (u - (jst a b k).2) ++ [a.getD k 0], if u < b.length ∧ b.getD u 0 = a.getD k 0 then u + 1 else u)
/-- What holds after k of a's numbers. -/
structure JInv (a b : List Int) (k : Nat) : Prop where
  le : (jst a b k).2 ≤ b.length
  rise : Rise (jst a b k).1
  mem : ∀ y, y ∈ (jst a b k).1 ↔ y ∈ a.take k ∨ y ∈ b.take (jst a b k).2
  low : ∀ y ∈ (jst a b k).1, ∀ j, k ≤ j → j < a.length → y < a.getD j 0
  high : ∀ y ∈ (jst a b k).1, ∀ j, (jst a b k).2 ≤ j → j < b.length → y < b.getD j 0
  len : (jst a b k).1.length ≤ k + (jst a b k).2
theorem take_mem_iff {l : List Int} {k : Nat} {y : Int} : y ∈ l.take k ↔ ∃ j, j < k ∧ j < l.length ∧ l.getD j 0 = y := by
  constructor
  · intro h
    obtain ⟨j, hj, e⟩ := mem_getD h
    have hj' : j < k ∧ j < l.length := by simp at hj; omega
    refine ⟨j, hj'.1, hj'.2, ?_⟩
    rw [getD_eq hj] at e
    rw [getD_eq hj'.2]
    simpa using e
  · rintro ⟨j, h1, h2, rfl⟩
    rw [getD_eq h2]
    exact List.mem_take_iff_getElem.2 ⟨j, by omega, rfl⟩
theorem seg_mem {l : List Int} {f u : Nat} {y : Int} : y ∈ (l.drop f).take (u - f) ↔ ∃ j, f ≤ j ∧ j < u ∧ j < l.length ∧ l.getD j 0 = y := by
  rw [take_mem_iff]
  constructor
  · rintro ⟨j, h1, h2, h3⟩
    rw [drop_getD] at h3
    exact ⟨f + j, by omega, by omega, by simp at h2; omega, h3⟩
  · rintro ⟨j, h1, h2, h3, h4⟩
    exact ⟨j - f, by omega, by simp; omega, by rw [drop_getD, show f + (j - f) = j by omega]; exact h4⟩
theorem jinv {a b : List Int} (ha : Rise a) (hb : Rise b) : ∀ k, k ≤ a.length → JInv a b k
  | 0, _ => ⟨Nat.zero_le _, List.Pairwise.nil, fun y => by simp [jst], fun y hy => by simp [jst] at hy, fun y hy => by simp [jst] at hy, Nat.zero_le _⟩
  | k + 1, hk => by
    have I := jinv ha hb k (by omega)
    obtain ⟨⟨o, f⟩, e⟩ : ∃ p, p = jst a b k := ⟨_, rfl⟩
    have h1 := I.le; have h2 := I.rise; have h3 := I.mem; have h4 := I.low; have h5 := I.high; have h6 := I.len
    rw [← e] at h1 h2 h3 h4 h5 h6
    simp only at h1 h2 h3 h4 h5 h6
    obtain ⟨x, hx⟩ : ∃ x, x = a.getD k 0 := ⟨_, rfl⟩
    obtain ⟨u, hu⟩ : ∃ u, u = leap b f x := ⟨_, rfl⟩
    have u1 : f ≤ u := by rw [hu]; exact leap_ge _ _ _
    have u2 : u ≤ b.length := by rw [hu]; exact leap_le _ _ _ h1
    have u3 : ∀ j, f ≤ j → j < u → b.getD j 0 < x := fun j q1 q2 => leap_lt b f x j q1 (by rw [← hu]; exact q2)
    have u4 : u < b.length → ¬ b.getD u 0 < x := fun q => by have := leap_stop b f x (by rw [← hu]; exact q); rwa [← hu] at this
    obtain ⟨g, hg⟩ : ∃ g, g = if u < b.length ∧ b.getD u 0 = x then u + 1 else u := ⟨_, rfl⟩
    have e2 : jst a b (k + 1) = (o ++ (b.drop f).take (u - f) ++ [x], g) := by
      rw [hg, hu, hx]
      conv => lhs; unfold jst
      rw [← e]
    have g1 : u ≤ g ∧ g ≤ b.length ∧ (g = u ∨ (g = u + 1 ∧ b.getD u 0 = x)) := by
      rw [hg]
      split
      · rename_i q; exact ⟨by omega, by omega, .inr ⟨rfl, q.2⟩⟩
      · exact ⟨Nat.le_refl _, u2, .inl rfl⟩
    have g2 : ∀ j, g ≤ j → j < b.length → x < b.getD j 0 := fun j q1 q2 => by
      have w1 := rise_le hb (show u ≤ j by omega) q2
      have w2 := u4 (by omega)
      rw [hg] at q1
      split at q1
      · rename_i q; have := rise_get hb (show u < j by omega) q2; omega
      · rename_i q
        by_cases e3 : b.getD u 0 = x
        · exact absurd ⟨by omega, e3⟩ q
        · omega
    have ox : ∀ y ∈ o, y < x := fun y hy => by rw [hx]; exact h4 y hy k (Nat.le_refl _) (by omega)
    have newmem : ∀ y, y ∈ o ++ (b.drop f).take (u - f) ++ [x] ↔ y ∈ o ∨ (∃ j, f ≤ j ∧ j < u ∧ j < b.length ∧ b.getD j 0 = y) ∨ y = x := fun y => by
      simp only [List.mem_append, List.mem_singleton, seg_mem]
      constructor
      · rintro ((q | q) | q)
        · exact .inl q
        · exact .inr (.inl q)
        · exact .inr (.inr q)
      · rintro (q | q | q)
        · exact .inl (.inl q)
        · exact .inl (.inr q)
        · exact .inr q
    have lex : ∀ y, y ∈ o ++ (b.drop f).take (u - f) ++ [x] → y ≤ x := fun y hy => by
      rcases (newmem y).1 hy with q | ⟨j, q1, q2, q3, q4⟩ | q
      · have := ox y q; omega
      · have := u3 j q1 q2; omega
      · omega
    refine ⟨?_, ?_, ?_, ?_, ?_, ?_⟩ <;> rw [e2] <;> simp only
    · exact g1.2.1
    · refine List.pairwise_append.2 ⟨List.pairwise_append.2 ⟨h2, (hb.sublist (List.drop_sublist _ _)).sublist (List.take_sublist _ _), fun y hy z hz => ?_⟩, by simp, fun y hy z hz => ?_⟩
      · obtain ⟨j, q1, q2, q3, q4⟩ := seg_mem.1 hz
        have := h5 y hy j q1 q3
        omega
      · simp only [List.mem_singleton] at hz
        subst hz
        rcases List.mem_append.1 hy with q | q
        · exact ox y q
        · obtain ⟨j, q1, q2, q3, q4⟩ := seg_mem.1 q
          have := u3 j q1 q2
          omega
    · intro y
      rw [newmem, h3, take_mem_iff, take_mem_iff, take_mem_iff, take_mem_iff]
      constructor
      · rintro ((⟨j, q1, q2, q3⟩ | ⟨j, q1, q2, q3⟩) | ⟨j, q1, q2, q3, q4⟩ | q)
        · exact .inl ⟨j, by omega, q2, q3⟩
        · exact .inr ⟨j, by omega, q2, q3⟩
        · exact .inr ⟨j, by omega, q3, q4⟩
        · exact .inl ⟨k, by omega, by omega, by rw [q, hx]⟩
      · rintro (⟨j, q1, q2, q3⟩ | ⟨j, q1, q2, q3⟩)
        · by_cases ej : j = k
          · subst ej; exact .inr (.inr (by rw [← q3, hx]))
          · exact .inl (.inl ⟨j, by omega, q2, q3⟩)
        · by_cases ej : j < f
          · exact .inl (.inr ⟨j, ej, q2, q3⟩)
          · by_cases ej2 : j < u
            · exact .inr (.inl ⟨j, by omega, ej2, q2, q3⟩)
            · rcases g1.2.2 with q | ⟨q, q'⟩
              · omega
              · obtain rfl : j = u := by omega
                exact .inr (.inr (by rw [← q3, q']))
    · intro y hy j q1 q2
      have := lex y hy
      have := rise_get ha (show k < j by omega) q2
      omega
    · intro y hy j q1 q2
      have := lex y hy
      have := g2 j q1 q2
      omega
    · simp; omega
theorem join_eq {a b : List Int} (ha : Rise a) (hb : Rise b) : (jst a b a.length).1 ++ b.drop (jst a b a.length).2 = joinL a b := by
  have I := jinv ha hb a.length (Nat.le_refl _)
  refine rise_uniq (List.pairwise_append.2 ⟨I.rise, hb.sublist (List.drop_sublist _ _), fun y hy z hz => ?_⟩) (joinL_rise b a ha) fun y => ?_
  · obtain ⟨j, q1, q2, q3⟩ := drop_mem hz
    have := I.high y hy j q1 q2
    omega
  · rw [joinL_mem, List.mem_append, I.mem, List.take_length]
    conv => rhs; rw [← List.take_append_drop (jst a b a.length).2 b]
    rw [List.mem_append]
    constructor
    · rintro ((q | q) | q)
      · exact .inl q
      · exact .inr (.inl q)
      · exact .inr (.inr q)
    · rintro (q | q | q)
      · exact .inl (.inl q)
      · exact .inl (.inr q)
      · exact .inr q
end Go.Proofs.Ytkfnejiiancmhad.L4

namespace Go.Proofs.Ytkfnejiiancmhad.L11
open L4
set_option linter.unusedVariables false

theorem anc_par {l : List Ev} {p i k : Nat} (hp : Par l p i) (h : Anc l i k) : Anc l p k := by
  induction h with
  | one h => exact .more h (.one hp)
  | more h _ ih => exact .more h ih
/-- How many numbers below one are not in a list. -/
def unv (xs : List Int) : Nat → Nat
  | 0 => 0
  | m + 1 => unv xs m + if (m : Int) ∈ xs then 0 else 1
theorem unv_same (xs : List Int) (x : Int) : ∀ m : Nat, (∀ q : Nat, q < m → (q : Int) ≠ x) → unv (put xs x) m = unv xs m
  | 0, _ => rfl
  | m + 1, h => by
    have ih := unv_same xs x m (fun q hq => h q (by omega))
    have hm := h m (by omega)
    have e : (m : Int) ∈ put xs x ↔ (m : Int) ∈ xs := by rw [put_mem]; exact ⟨fun h => h.resolve_left hm, .inr⟩
    unfold unv
    rw [ih]
    simp only [e]
theorem unv_put (xs : List Int) (p : Nat) (hx : (p : Int) ∉ xs) : ∀ m : Nat, p < m → unv (put xs (p : Int)) m + 1 = unv xs m
  | 0, h => by omega
  | m + 1, h => by
    unfold unv
    by_cases e : p = m
    · subst e
      rw [unv_same xs (p : Int) p (fun q hq => by omega), if_pos (by rw [put_mem]; exact .inl rfl), if_neg hx]
    · have ih := unv_put xs p hx m (by omega)
      have e2 : (m : Int) ∈ put xs (p : Int) ↔ (m : Int) ∈ xs := by rw [put_mem]; exact ⟨fun h => h.resolve_left (by omega), .inr⟩
      simp only [e2]
      omega
/-- While it is searched: what is found, and what is wanted. -/
structure BI (l : List Ev) (k : Nat) (xs ws : List Int) : Prop where
  anc : ∀ x ∈ xs, ∃ p : Nat, x = (p : Int) ∧ Anc l p k
  want : ∀ x ∈ ws, x = (k : Int) ∨ x ∈ xs
  clos : ∀ q : Nat, ((q : Int) = (k : Int) ∨ (q : Int) ∈ xs) → (q : Int) ∉ ws → ∀ p : Nat, Par l p q → (p : Int) ∈ xs
  len : xs.length + unv xs k = k
  wl : ws.length ≤ xs.length + 1
/-- The same within a round, the first ones of what an event comes of being seen to. -/
structure BJ (l : List Ev) (k i j : Nat) (xs ws : List Int) : Prop where
  anc : ∀ x ∈ xs, ∃ p : Nat, x = (p : Int) ∧ Anc l p k
  want : ∀ x ∈ ws, x = (k : Int) ∨ x ∈ xs
  own : (i : Int) = (k : Int) ∨ (i : Int) ∈ xs
  clos : ∀ q : Nat, ((q : Int) = (k : Int) ∨ (q : Int) ∈ xs) → (q : Int) ∉ ws → q ≠ i → ∀ p : Nat, Par l p q → (p : Int) ∈ xs
  first : 1 ≤ j → ∀ p : Nat, pri l (nd l i) i = (p : Int) → (p : Int) ∈ xs
  second : 2 ≤ j → ∀ p : Nat, fr l i = (p : Int) → p < i → (p : Int) ∈ xs
  len : xs.length + unv xs k = k
  wl : ws.length ≤ xs.length
theorem bi_start (l : List Ev) (k : Nat) : BI l k [] [(k : Int)] := by
  refine ⟨fun x hx => by simp at hx, fun x hx => .inl (by simpa using hx), fun q hq hw => ?_, ?_, by simp⟩
  · rcases hq with h | h
    · exact absurd (by simp [h]) hw
    · simp at h
  · have h : ∀ m, unv [] m = m := fun m => by
      induction m with
      | zero => rfl
      | succ m ih => simp [unv, ih]
    rw [h]; simp
theorem BI.pop {l : List Ev} {k i : Nat} {xs ws : List Int} (h : BI l k xs ((i : Int) :: ws)) : BJ l k i 0 xs ws :=
  ⟨h.anc, fun x hx => h.want x (by simp [hx]), h.want _ (by simp), fun q hq hw hqi p hp => h.clos q hq (by simp only [List.mem_cons, not_or]; exact ⟨by omega, hw⟩) p hp, fun h => by omega, fun h => by omega, h.len, by have := h.wl; simp at this; omega⟩
theorem BJ.shut {l : List Ev} {k i : Nat} {xs ws : List Int} (h : BJ l k i 2 xs ws) : BI l k xs ws := by
  refine ⟨h.anc, h.want, fun q hq hw p hp => ?_, h.len, by have := h.wl; omega⟩
  by_cases e : q = i
  · subst e
    rcases hp with h1 | h1
    · exact h.first (by omega) p h1
    · exact h.second (by omega) p h1.1 h1.2
  · exact h.clos q hq hw e p hp
theorem BJ.idx {l : List Ev} {k i j : Nat} {xs ws : List Int} (h : BJ l k i j xs ws) : i ≤ k := by
  rcases h.own with h1 | h1
  · omega
  · obtain ⟨p, e, ha⟩ := h.anc _ h1
    have := ha.lt
    omega
/-- The number of what an event comes of, the j-th. -/
def parN (l : List Ev) (i j : Nat) : Int := if j = 0 then pri l (nd l i) i else fr l i
theorem parN_par {l : List Ev} {i j p : Nat} (h : parN l i j = (p : Int)) (hf : fr l i < (i : Int)) : Par l p i := by
  unfold parN at h
  split at h
  · exact .inl h
  · exact .inr ⟨h, by omega⟩
theorem BJ.skip {l : List Ev} {k i j : Nat} {xs ws : List Int} (h : BJ l k i j xs ws) (hj : j < 2) (hs : ∀ p : Nat, parN l i j = (p : Int) → (p : Int) ∈ xs) : BJ l k i (j + 1) xs ws := by
  refine ⟨h.anc, h.want, h.own, h.clos, fun _ p hp => ?_, fun h2 p hp hpi => ?_, h.len, h.wl⟩
  · by_cases e : j = 0
    · subst e; exact hs p hp
    · exact h.first (by omega) p hp
  · obtain rfl : j = 1 := by omega
    exact hs p hp
theorem BJ.add {l : List Ev} {k i j p : Nat} {xs ws : List Int} (h : BJ l k i j xs ws) (hj : j < 2) (hf : fr l i < (i : Int)) (hp : parN l i j = (p : Int)) (hn : (p : Int) ∉ xs) (hlen : (put xs (p : Int)).length = xs.length + 1) : BJ l k i (j + 1) (put xs (p : Int)) (ws ++ [(p : Int)]) := by
  have hpar := parN_par hp hf
  have hki := h.idx
  have hpk : p < k := by have := hpar.lt; omega
  refine ⟨fun x hx => ?_, fun x hx => ?_, ?_, fun q hq hw hqi r hr => ?_, fun _ r hr => ?_, fun h2 r hr hri => ?_, ?_, ?_⟩
  · rcases (put_mem _ _ _).1 hx with rfl | hx
    · refine ⟨p, rfl, ?_⟩
      rcases h.own with h1 | h1
      · obtain rfl : i = k := by omega
        exact .one hpar
      · obtain ⟨r, e, ha⟩ := h.anc _ h1
        obtain rfl : i = r := by omega
        exact anc_par hpar ha
    · exact h.anc x hx
  · rcases List.mem_append.1 hx with hx | hx
    · rcases h.want x hx with h1 | h1
      · exact .inl h1
      · exact .inr ((put_mem _ _ _).2 (.inr h1))
    · exact .inr ((put_mem _ _ _).2 (.inl (by simpa using hx)))
  · rcases h.own with h1 | h1
    · exact .inl h1
    · exact .inr ((put_mem _ _ _).2 (.inr h1))
  · have hw1 : (q : Int) ∉ ws := fun hh => hw (List.mem_append.2 (.inl hh))
    have hw2 : (q : Int) ≠ (p : Int) := fun hh => hw (List.mem_append.2 (.inr (by simp [hh])))
    refine (put_mem _ _ _).2 (.inr (h.clos q ?_ hw1 hqi r hr))
    rcases hq with h1 | h1
    · exact .inl h1
    · exact .inr (((put_mem _ _ _).1 h1).resolve_left hw2)
  · by_cases e : j = 0
    · subst e
      have : parN l i 0 = (r : Int) := hr
      rw [hp] at this
      exact (put_mem _ _ _).2 (.inl (by omega))
    · exact (put_mem _ _ _).2 (.inr (h.first (by omega) r hr))
  · obtain rfl : j = 1 := by omega
    have : parN l i 1 = (r : Int) := hr
    rw [hp] at this
    exact (put_mem _ _ _).2 (.inl (by omega))
  · have h1 := h.len
    have h2 := unv_put xs p hn k hpk
    omega
  · have := h.wl
    rw [List.length_append, hlen]
    simp
    omega
/-- At the end all is found. -/
theorem BI.all {l : List Ev} {k : Nat} {xs : List Int} (h : BI l k xs []) (p : Nat) : (p : Int) ∈ xs ↔ Anc l p k := by
  constructor
  · intro hx
    obtain ⟨q, e, ha⟩ := h.anc _ hx
    obtain rfl : p = q := by omega
    exact ha
  · intro ha
    have key : ∀ {a b : Nat}, Anc l a b → ((b : Int) = (k : Int) ∨ (b : Int) ∈ xs) → (a : Int) ∈ xs := fun {a b} hab => by
      induction hab with
      | one h1 => intro hb; exact h.clos _ hb (by simp) _ h1
      | more h1 _ ih => intro hb; exact ih (.inr (h.clos _ hb (by simp) _ h1))
    exact key ha (.inl rfl)
theorem put_len_new (xs : List Int) (x : Int) (hx : x ∉ xs) : (put xs x).length = xs.length + 1 := by
  unfold put
  split
  · rename_i h
    exfalso
    apply hx
    rw [← h.2]
    simp only [List.getD, List.getElem?_eq_getElem h.1, Option.getD_some]
    exact List.getElem_mem h.1
  · simp; omega
end Go.Proofs.Ytkfnejiiancmhad.L11
