/-
  Contract: impl.clocksOf.
-/
import Derived.Test.YtkfnejiiancmhahL11ClkM
namespace Go.Proofs.Ytkfnejiiancmhah.L11
open Go.RowKit L1 Own
set_option linter.unusedVariables false

set_option maxRecDepth 100000 in
set_option maxHeartbeats 8000000 in
theorem clocksOf_any (N : Int) (a : Option Addr) (l : List (Int × Int)) (n cap : Nat) (w : World) (hn : l.length = n) (hs : Sl2 w a l) (hg : GoodV N l) :
    Calls Try.prog 38 #[.slice a n cap] w fun e w' => ∃ v, e = .returned v ∧ w'.ownsRow w.heap.size 59 5 v n (flat5 (cE l) n) ∧ Below w.heap.size w w' := by
  have h40 : n ≤ 40 := by have := hg.2.2.1; omega
  obtain ⟨i1, hi1, hy0, hy1, hy2⟩ := info_parts info_clk
  have HG := hide hg
  have HS := hide hs
  have HN := hide hn
  clear hg hs hn
  go_enter Try.func38, Try.ntmps38
  go_upto_region 3 with fail
  obtain ⟨W, hW⟩ : ∃ W, w.alloc (.cells #[.int .i64 0, .int .i64 0, .int .i64 0, .int .i64 0, .int .i64 0, .int .i64 0, .int .i64 0, .int .i64 0, .int .i64 0, .int .i64 0, .int .i64 0, .int .i64 0, .int .i64 0, .int .i64 0, .int .i64 0, .int .i64 0, .int .i64 0, .int .i64 0, .int .i64 0, .int .i64 0, .int .i64 0, .int .i64 0, .int .i64 0, .int .i64 0, .int .i64 0] 74) = W := ⟨_, rfl⟩
  have A0 : Hid (Arr 74 25 W w.heap.size w.heap.size (LE l 0)) := by
    rw [← hW]
    refine hide (arr_new _ 25 w _ _ rfl (Nat.le_refl _) (by omega) _ _ ?_)
    show lA 25 (fun _ => 0) = _
    exact lA_congr 25 _ _ (fun i _ => rfl)
  have B2 : Hid (Below w.heap.size w W) := by rw [← hW]; exact hide ((Below.refl _ _).alloc (Nat.le_refl _) _)
  rw [hW]
  obtain ⟨g, hg⟩ : ∃ g, g = w.heap.size := ⟨_, rfl⟩
  have HGE := hide hg
  have A1 : Hid (Arr 74 25 W w.heap.size g (LE l 0)) := by rw [hg]; exact A0
  rw [← hg]
  clear hW hg A0
  go_wp2
  go_loopw [3, 10] (fun ot i wr => ∃ k : Nat, k ≤ n ∧ i = .int .i64 k ∧ Hid (KC w wr g ot l k)) (fun _ i _ => n - (intOf i).toNat)
  case atStart => exact ⟨0, Nat.zero_le _, rfl, ⟨A1.out, World.ownsRow_nil _ _ _ _, B2.out⟩⟩
  case round =>
    obtain ⟨k, hk, rfl, HKC⟩ := hrel
    have HWG : Hid (w.heap.size ≤ g) := by rw [HGE.out]; exact Nat.le_refl _
    obtain ⟨oa, ocap, hov⟩ : ∃ oa ocap, u3 = .slice oa k ocap := by
      rcases HKC.out.O.2 with ⟨hv, h0⟩ | ⟨q, cap, cur, hv, _⟩
      · subst h0; exact ⟨none, 0, hv⟩
      · exact ⟨_, cap, hv⟩
    subst hov
    by_cases hlt : k < n
    · have hv := HG.out.2.2.2 k (by rw [HN.out]; exact hlt)
      have hN5 := HG.out.2.1
      obtain ⟨xn, hx⟩ : ∃ xn : Nat, nd l k = (xn : Int) := ⟨(nd l k).toNat, by have := hv.1; omega⟩
      have hx5 : xn < 5 := by have := hv.2.1; omega
      have hsl := HS.out.below HKC.out.bel
      obtain ⟨b, off, rfl, q1, q2⟩ := hsl k (by rw [HN.out]; exact hlt)
      clear q1 q2
      obtain ⟨hc, hd⟩ := hsl.two k (by rw [HN.out]; exact hlt)
      rw [hx] at hc
      have hltI : (k : Int) < (n : Int) := by omega
      have hxI : (xn : Int) < 5 := by omega
      have hx0 : (0 : Int) ≤ (xn : Int) := by omega
      obtain ⟨y, hy⟩ : ∃ y, y = fr l k := ⟨_, rfl⟩
      rw [← hy] at hd
      have HY := hide hy
      have HX := hide hx
      have HV := hide hv
      clear hy hx hv hsl
      go_upto_region 6 with fail
      obtain ⟨W0, hW0⟩ : ∃ W0, wr.alloc (.cells #[.int .i64 xn, .int .i64 y] 48) = W0 := ⟨_, rfl⟩
      have hbw : Below wr.heap.size wr W0 := by rw [← hW0]; exact (Below.refl _ _).alloc (Nat.le_refl _) _
      have e0 : W0.cell? ⟨wr.heap.size, 0, none⟩ = some (.int .i64 xn) := by rw [← hW0]; simp
      have e1 : W0.cell? ⟨wr.heap.size, 1, none⟩ = some (.int .i64 y) := by rw [← hW0]; simp
      have HK0 := hide (HKC.out.below hbw)
      have hgw := HKC.out.L.lt
      have hob : ∀ q, (Value.slice oa k ocap).ownBlock = some q → q < wr.heap.size := fun q hq => (HKC.out.O.lt q hq).2
      have hzw : wr.heap.size < W0.heap.size := by rw [← hW0]; simp
      rw [hW0]
      obtain ⟨eb, heb⟩ : ∃ eb, eb = wr.heap.size := ⟨_, rfl⟩
      rw [← heb] at e0 e1 hgw hob hzw ⊢
      clear hW0 hbw heb HKC
      have l0 := HK0.out.L.cell (xn * 5 + 0) (by omega)
      rw [LE_at l k xn 0 (by omega)] at l0
      have l1 := HK0.out.L.cell (xn * 5 + 1) (by omega)
      rw [LE_at l k xn 1 (by omega)] at l1
      have l2 := HK0.out.L.cell (xn * 5 + 2) (by omega)
      rw [LE_at l k xn 2 (by omega)] at l2
      have l3 := HK0.out.L.cell (xn * 5 + 3) (by omega)
      rw [LE_at l k xn 3 (by omega)] at l3
      have l4 := HK0.out.L.cell (xn * 5 + 4) (by omega)
      rw [LE_at l k xn 4 (by omega)] at l4
      rw [Nat.add_zero] at l0
      obtain ⟨P, hP⟩ : ∃ P : Nat → Int, P = fun i : Nat => clkO l (pri l (xn : Int) k) (i : Int) := ⟨_, rfl⟩
      have hPi : ∀ i : Nat, clkO l (pri l (xn : Int) k) (i : Int) = P i := fun i => by rw [hP]
      rw [hPi] at l0 l1 l2 l3 l4
      have hPb : ∀ i : Nat, 0 ≤ P i ∧ P i ≤ (k : Int) := fun i => by rw [← hPi]; exact clkO_bd l _ k (pri_lt l _ k) _
      have hcl : ∀ i : Nat, clk l k (i : Int) = max (P i) (clkO l y (i : Int)) + if (i : Int) = (xn : Int) then 1 else 0 := fun i => by
        rw [clk_eq l k _ HV.out.2.2.2.1, HX.out, hPi, HY.out]
      have HPB := hide hPb
      have HCL := hide hcl
      clear hP hPi hPb hcl
      go_upto_region 7 with fail
      obtain ⟨V, hV⟩ : ∃ V, W0.alloc (.cells #[.int .i64 (P 0), .int .i64 (P 1), .int .i64 (P 2), .int .i64 (P 3), .int .i64 (P 4)] 59) = V := ⟨_, rfl⟩
      have hbv : Below W0.heap.size W0 V := by rw [← hV]; exact (Below.refl _ _).alloc (Nat.le_refl _) _
      have HC : Hid (Clk V w.heap.size W0.heap.size P) := by rw [← hV]; exact hide (clk_new W0 _ _ rfl HK0.out.bel.size P)
      have HKC := hide (HK0.out.below hbv)
      have E0 : Hid (V.cell? ⟨eb, 0, none⟩ = some (.int .i64 xn)) := hide ((hbv.cell (p := ⟨eb, 0, none⟩) (blk_lt e0)).trans e0)
      have e1v : V.cell? ⟨eb, 1, none⟩ = some (.int .i64 y) := (hbv.cell (p := ⟨eb, 1, none⟩) (blk_lt e1)).trans e1
      have hwz := HK0.out.bel.size
      rw [hV]
      obtain ⟨cb, hcb⟩ : ∃ cb, cb = W0.heap.size := ⟨_, rfl⟩
      rw [← hcb] at HC hzw hwz ⊢
      have HCB : Hid (w.heap.size ≤ cb ∧ g ≠ cb ∧ (Value.slice oa k ocap).ownBlock ≠ some cb) := hide ⟨hwz, by omega, fun e => by have := hob cb e; omega⟩
      have HEC : Hid (eb ≠ cb) := hide (by omega)
      clear hV hbv hcb e0 e1 l0 l1 l2 l3 l4 HK0 hgw hob hzw hwz
      by_cases hy1 : y = -1
      · have hyb : (y != -1) = false := by simp [hy1]
        obtain ⟨M, hMP⟩ : ∃ M : Nat → Int, M = P := ⟨_, rfl⟩
        rw [← hMP] at HC
        have HMB : Hid (∀ i, i < 5 → 0 ≤ M i ∧ M i ≤ (k : Int)) := hide (fun i _ => by rw [hMP]; exact HPB.out i)
        have HM : Hid (∀ i : Nat, i < 5 → (M i + if i = xn then 1 else 0) = cE l k i) := hide (fun i _ => by
          have h1 := HCL.out i
          have h2 := HPB.out i
          unfold cE
          rw [h1, hMP, hy1]
          have h3 : clkO l (-1) (i : Int) = 0 := rfl
          rw [h3]
          by_cases e : i = xn
          · rw [if_pos e, if_pos (by omega)]; omega
          · rw [if_neg e, if_neg (by omega)]; omega)
        clear hy1 hMP HCL HPB
        have hcx := HC.out.cell xn hx5
        have hcf := HC.out.frozenAt xn
        have hMb := HMB.out xn hx5
        obtain ⟨mx, hmx⟩ : ∃ mx, mx = M xn := ⟨_, rfl⟩
        rw [← hmx] at hcx hMb
        have hmb0 := hMb.1
        have hmb1 : mx ≤ 40 := by omega
        have HMX := hide hmx
        have e0 := E0.out
        clear hmx hMb
        go_upto_region 10 with fail
        obtain ⟨V4, hV4⟩ : ∃ V4, V.setCell ⟨cb, xn, none⟩ (.int .i64 (mx + 1)) = V4 := ⟨_, rfl⟩
        have HC4 : Hid (Clk V4 w.heap.size cb (cE l k)) := by
          rw [← hV4]
          refine hide ((HC.out.set xn (mx + 1)).congr (fun i hi => ?_))
          have := HM.out i hi
          unfold updI
          by_cases e : i = xn
          · subst e; rw [if_pos rfl]; rw [if_pos rfl] at this; rw [HMX.out]; exact this
          · rw [if_neg e]; rw [if_neg e] at this; omega
        have HK4 : Hid (KC w V4 g (Value.slice oa k ocap) l k) := by rw [← hV4]; exact hide (HKC.out.set xn _ HCB.out.1 HCB.out.2.1 HCB.out.2.2)
        have E04 : Hid (V4.cell? ⟨eb, 0, none⟩ = some (.int .i64 xn)) := by
          rw [← hV4]
          exact hide (by unfold World.cell?; rw [Below.heap_setCell V ⟨cb, xn, none⟩ _ eb HEC.out]; exact E0.out)
        rw [hV4]
        clear hV4 hcx hcf e0 HC HKC E0 hmb0 hmb1
        have e0 := E04.out
        have c0 := HC4.out.cell 0 (by omega)
        have l0 := HK4.out.L.cell (xn * 5 + 0) (by omega)
        have lf0 := HK4.out.L.frozenAt (xn * 5 + 0)
        have c1 := HC4.out.cell 1 (by omega)
        have l1 := HK4.out.L.cell (xn * 5 + 1) (by omega)
        have lf1 := HK4.out.L.frozenAt (xn * 5 + 1)
        have c2 := HC4.out.cell 2 (by omega)
        have l2 := HK4.out.L.cell (xn * 5 + 2) (by omega)
        have lf2 := HK4.out.L.frozenAt (xn * 5 + 2)
        have c3 := HC4.out.cell 3 (by omega)
        have l3 := HK4.out.L.cell (xn * 5 + 3) (by omega)
        have lf3 := HK4.out.L.frozenAt (xn * 5 + 3)
        have c4 := HC4.out.cell 4 (by omega)
        have l4 := HK4.out.L.cell (xn * 5 + 4) (by omega)
        have lf4 := HK4.out.L.frozenAt (xn * 5 + 4)
        rw [Nat.add_zero] at l0 lf0
        go_upto_region 11 with fail
        obtain ⟨V5, hV5⟩ : ∃ V5, (((((V4.setCell ⟨g, xn * 5, none⟩ (.int .i64 (cE l k 0))).setCell ⟨g, xn * 5 + 1, none⟩ (.int .i64 (cE l k 1))).setCell ⟨g, xn * 5 + 2, none⟩ (.int .i64 (cE l k 2))).setCell ⟨g, xn * 5 + 3, none⟩ (.int .i64 (cE l k 3))).setCell ⟨g, xn * 5 + 4, none⟩ (.int .i64 (cE l k 4))) = V5 := ⟨_, rfl⟩
        have HL5 : Hid (Arr 74 25 V5 w.heap.size g (LE l (k + 1))) := by
          rw [← hV5]
          exact hide ((((((HK4.out.L.set (xn * 5) _).set (xn * 5 + 1) _).set (xn * 5 + 2) _).set (xn * 5 + 3) _).set (xn * 5 + 4) _).congr (fun q hq => LE_succ l k xn HX.out q hq))
        have HO5 : Hid (V5.ownsRow (g + 1) 59 5 (Value.slice oa k ocap) k (flat5 (cE l) k)) := by
          rw [← hV5]
          exact hide (own_setLt (own_setLt (own_setLt (own_setLt (own_setLt HK4.out.O g _ _ (by omega)) g _ _ (by omega)) g _ _ (by omega)) g _ _ (by omega)) g _ _ (by omega))
        have HC5 : Hid (Clk V5 w.heap.size cb (cE l k)) := by
          rw [← hV5]
          exact hide (((((HC4.out.keep _ _ (Ne.symm HCB.out.2.1)).keep _ _ (Ne.symm HCB.out.2.1)).keep _ _ (Ne.symm HCB.out.2.1)).keep _ _ (Ne.symm HCB.out.2.1)).keep _ _ (Ne.symm HCB.out.2.1))
        have B5 : Hid (Below w.heap.size w V5) := by
          rw [← hV5]
          exact hide (((((HK4.out.bel.setCell (p := ⟨g, xn * 5, none⟩) HWG.out _).setCell (p := ⟨g, xn * 5 + 1, none⟩) HWG.out _).setCell (p := ⟨g, xn * 5 + 2, none⟩) HWG.out _).setCell (p := ⟨g, xn * 5 + 3, none⟩) HWG.out _).setCell (p := ⟨g, xn * 5 + 4, none⟩) HWG.out _)
        rw [hV5]
        clear hV5 e0 E04 HK4 HC4 c0 c1 c2 c3 c4 l0 l1 l2 l3 l4 lf0 lf1 lf2 lf3 lf4
        have hgV := HL5.out.lt
        have hsz5 := B5.out.size
        have c0 := HC5.out.cell 0 (by omega)
        have c1 := HC5.out.cell 1 (by omega)
        have c2 := HC5.out.cell 2 (by omega)
        have c3 := HC5.out.cell 3 (by omega)
        have c4 := HC5.out.cell 4 (by omega)
        go_wp2_with (first
          | (at_builtin; refine wpList_append_own_at _ rfl _ _ 56 rfl (g + 1) 59 i1 (.agg #[.int .i64 0, .int .i64 0, .int .i64 0, .int .i64 0, .int .i64 0]) 5 40 Try.underlying56 hi1 hy0 hy1 hy2 rfl (by decide) _ _ _ rfl (HO5.out.alloc _) ⟨V5.heap.size, 0, none⟩ 1 1 (lA 5 (cE l k)) rfl (by simp [lA]) (cell_five _ _ rfl _ _) (by intro u hu; simp [lA] at hu; obtain ⟨q, _, rfl⟩ := hu; rfl) (by unfold maxLen; omega) (by omega) (by simp; omega) ?_)
          | go_in)
        intro v6 w6 hown6 hgrow6 _ hat6
        have hob : ∀ q, (Value.slice oa k ocap).ownBlock = some q → g + 1 ≤ q := fun q hq => (HO5.out.lt q hq).1
        have hb6 : Below w.heap.size w w6 := (B5.out.alloc hsz5 _).grown hgrow6 (by simp; omega) (fun q hq => by have h1 := hob q hq; have h2 := HWG.out; omega)
        have harr6 : Arr 74 25 w6 w.heap.size g (LE l (k + 1)) := arr_grown2 (HL5.out.alloc _) hgrow6 (fun e => by have := hob g e; omega)
        have H7 : Hid (KC w w6 g v6 l (k + 1)) := hide ⟨harr6, hown6, hb6⟩
        clear hown6 hgrow6 harr6 hat6 hb6
        go_wp2
        go_roundw
        case rel => exact ⟨k + 1, by omega, by go_num, H7⟩
        case measure => simp [intOf]; omega
      · have hyb : (y != -1) = true := by simp [hy1]
        have hv4 := HV.out.2.2.2.1
        have hv3 := HV.out.2.2.1
        rw [← HY.out] at hv3 hv4
        obtain ⟨f, hf⟩ : ∃ f : Nat, y = (f : Int) := ⟨y.toNat, by omega⟩
        subst hf
        have hfk : f < k := by omega
        have hfI : (f : Int) < (k : Int) := by omega
        have hf0 : (0 : Int) ≤ (f : Int) := by omega
        obtain ⟨oq, hoa⟩ : ∃ q, oa = some ⟨q, 0, none⟩ := by
          rcases HKC.out.O.2 with ⟨hv, h0⟩ | ⟨q, cap, cur, hv, _⟩
          · omega
          · exact ⟨q, by simp at hv; exact hv.1⟩
        subst hoa
        have o0 := HKC.out.O.cells (g := oq) rfl (f * 5 + 0) _ (flat5_get (cE l) k f 0 hfk (by omega))
        have o1 := HKC.out.O.cells (g := oq) rfl (f * 5 + 1) _ (flat5_get (cE l) k f 1 hfk (by omega))
        have o2 := HKC.out.O.cells (g := oq) rfl (f * 5 + 2) _ (flat5_get (cE l) k f 2 hfk (by omega))
        have o3 := HKC.out.O.cells (g := oq) rfl (f * 5 + 3) _ (flat5_get (cE l) k f 3 hfk (by omega))
        have o4 := HKC.out.O.cells (g := oq) rfl (f * 5 + 4) _ (flat5_get (cE l) k f 4 hfk (by omega))
        rw [addr_add] at o0 o1 o2 o3 o4
        simp only [Nat.add_zero] at o0 o1 o2 o3 o4
        have p0 := HC.out.cell 0 (by omega)
        have p1 := HC.out.cell 1 (by omega)
        have p2 := HC.out.cell 2 (by omega)
        have p3 := HC.out.cell 3 (by omega)
        have p4 := HC.out.cell 4 (by omega)
        have CJ : Hid (∀ wx, Below V.heap.size V wx → Calls Try.prog 54 #[cv P, cv (cE l f)] wx fun e w' => e = .returned (cv (jn P (cE l f))) ∧ (w'.cell? ⟨cb, 0, none⟩ = some (.int .i64 (P 0)) ∧ w'.frozen? ⟨cb, 0, none⟩ = false ∧ w'.cell? ⟨cb, 1, none⟩ = some (.int .i64 (P 1)) ∧ w'.frozen? ⟨cb, 1, none⟩ = false ∧ w'.cell? ⟨cb, 2, none⟩ = some (.int .i64 (P 2)) ∧ w'.frozen? ⟨cb, 2, none⟩ = false ∧ w'.cell? ⟨cb, 3, none⟩ = some (.int .i64 (P 3)) ∧ w'.frozen? ⟨cb, 3, none⟩ = false ∧ w'.cell? ⟨cb, 4, none⟩ = some (.int .i64 (P 4)) ∧ w'.frozen? ⟨cb, 4, none⟩ = false) ∧ Below V.heap.size V w') := hide (fun wx hb => (joinClocks_any P (cE l f) wx).mono (fun e w' h => by
          have hb2 : Below V.heap.size V w' := hb.trans (h.2.mono hb.size)
          have hC2 := HC.out.below hb2
          exact ⟨h.1, ⟨hC2.cell 0 (by omega), hC2.frozenAt 0, hC2.cell 1 (by omega), hC2.frozenAt 1, hC2.cell 2 (by omega), hC2.frozenAt 2, hC2.cell 3 (by omega), hC2.frozenAt 3, hC2.cell 4 (by omega), hC2.frozenAt 4⟩, hb2⟩))
        obtain ⟨M, hMJ⟩ : ∃ M : Nat → Int, M = jn P (cE l f) := ⟨_, rfl⟩
        have hfe : ∀ i : Nat, clkO l (f : Int) (i : Int) = cE l f i := fun i => by unfold clkO cE; rw [if_pos (by omega)]; rfl
        have HMB : Hid (∀ i, i < 5 → 0 ≤ M i ∧ M i ≤ (k : Int)) := hide (fun i _ => by
          have h1 := HPB.out i
          have h2 := clkO_bd l (f : Int) k (by omega) (i : Int)
          rw [hfe] at h2
          rw [hMJ]; unfold jn; omega)
        have HM : Hid (∀ i : Nat, i < 5 → (M i + if i = xn then 1 else 0) = cE l k i) := hide (fun i _ => by
          have h1 := HCL.out i
          rw [hfe] at h1
          show _ = clk l k (i : Int)
          rw [h1, hMJ]
          unfold jn
          by_cases e : i = xn
          · rw [if_pos e, if_pos (by omega)]
          · rw [if_neg e, if_neg (by omega)])
        rw [← hMJ] at CJ
        clear hy1 HCL HPB hv3 hv4 hfe hMJ
        go_upto_region 8 with fail
        go_cut [7] from 18 to 27 (fun t wx => t = .pointer (some ⟨cb, 0, none⟩) ∧ ∃ v2, Below V.heap.size V v2 ∧ (wx = (((((v2.setCell ⟨cb, 0, none⟩ (.int .i64 (M 0))).setCell ⟨cb, 1, none⟩ (.int .i64 (M 1))).setCell ⟨cb, 2, none⟩ (.int .i64 (M 2))).setCell ⟨cb, 3, none⟩ (.int .i64 (M 3))).setCell ⟨cb, 4, none⟩ (.int .i64 (M 4))) ∨ wx = ((((((v2.setCell ⟨cb, 0, none⟩ (.int .i64 (M 0))).setCell ⟨cb, 1, none⟩ (.int .i64 (M 1))).setCell ⟨cb, 2, none⟩ (.int .i64 (M 2))).setCell ⟨cb, 3, none⟩ (.int .i64 (M 3))).setCell ⟨cb, 4, none⟩ (.int .i64 (M 4)))).drew))
        case first =>
          go_region_with (go_at_call 54; refine (CJ.out _ ?_).mono ?_; (first | exact Below.refl _ _ | exact (Below.refl _ _).drew | exact ((Below.refl _ _).drew).drew); rintro e w2 ⟨rfl, ⟨a0, b0, a1, b1, a2, b2, a3, b3, a4, b4⟩, hb2⟩)
          all_goals
            go_wp2
            go_meet
            first
              | exact ⟨rfl, w2, hb2, .inl rfl⟩
              | exact ⟨rfl, w2, hb2, .inr rfl⟩
        case rest =>
          obtain ⟨rfl, v2, hb2, hwx⟩ := hcut
          have hk3 := (HKC.out.below hb2).set5 (.int .i64 (M 0)) (.int .i64 (M 1)) (.int .i64 (M 2)) (.int .i64 (M 3)) (.int .i64 (M 4)) HCB.out.1 HCB.out.2.1 HCB.out.2.2
          have hc3 := arr_set5 (HC.out.below hb2) M
          have h1 : v2.cell? ⟨eb, 0, none⟩ = some (.int .i64 xn) := (hb2.cell (p := ⟨eb, 0, none⟩) (blk_lt E0.out)).trans E0.out
          have he3 := cell_set5 h1 HEC.out (.int .i64 (M 0)) (.int .i64 (M 1)) (.int .i64 (M 2)) (.int .i64 (M 3)) (.int .i64 (M 4))
          obtain ⟨U, hU⟩ : ∃ U, U = (((((v2.setCell ⟨cb, 0, none⟩ (.int .i64 (M 0))).setCell ⟨cb, 1, none⟩ (.int .i64 (M 1))).setCell ⟨cb, 2, none⟩ (.int .i64 (M 2))).setCell ⟨cb, 3, none⟩ (.int .i64 (M 3))).setCell ⟨cb, 4, none⟩ (.int .i64 (M 4))) := ⟨_, rfl⟩
          rw [← hU] at hk3 hc3 he3 hwx
          have HK3 : Hid (KC w wc g (.slice (some ⟨oq, 0, none⟩) k ocap) l k) := by
            rcases hwx with h | h
            · rw [h]; exact hide hk3
            · rw [h]; exact hide hk3.drew
          have HC3 : Hid (Clk wc w.heap.size cb M) := by
            rcases hwx with h | h
            · rw [h]; exact hide hc3
            · rw [h]; exact hide hc3.drew
          have E03 : Hid (wc.cell? ⟨eb, 0, none⟩ = some (.int .i64 xn)) := by
            rcases hwx with h | h
            · rw [h]; exact hide he3
            · rw [h]; exact hide he3
          clear hk3 hc3 he3 hwx hU h1 U
          clear hb2 v2 E0 HC HKC CJ o0 o1 o2 o3 o4 p0 p1 p2 p3 p4 e1v
          obtain ⟨V', hV'⟩ : ∃ V', V' = wc := ⟨_, rfl⟩
          rw [← hV'] at HK3 HC3 E03 ⊢
          clear hV'
          have hcx := HC3.out.cell xn hx5
          have hcf := HC3.out.frozenAt xn
          have hMb := HMB.out xn hx5
          obtain ⟨mx, hmx⟩ : ∃ mx, mx = M xn := ⟨_, rfl⟩
          rw [← hmx] at hcx hMb
          have hmb0 := hMb.1
          have hmb1 : mx ≤ 40 := by omega
          have HMX := hide hmx
          have e0 := E03.out
          clear hmx hMb
          go_upto_region 10 with fail
          obtain ⟨V4, hV4⟩ : ∃ V4, V'.setCell ⟨cb, xn, none⟩ (.int .i64 (mx + 1)) = V4 := ⟨_, rfl⟩
          have HC4 : Hid (Clk V4 w.heap.size cb (cE l k)) := by
            rw [← hV4]
            refine hide ((HC3.out.set xn (mx + 1)).congr (fun i hi => ?_))
            have := HM.out i hi
            unfold updI
            by_cases e : i = xn
            · subst e; rw [if_pos rfl]; rw [if_pos rfl] at this; rw [HMX.out]; exact this
            · rw [if_neg e]; rw [if_neg e] at this; omega
          have HK4 : Hid (KC w V4 g (Value.slice (some ⟨oq, 0, none⟩) k ocap) l k) := by rw [← hV4]; exact hide (HK3.out.set xn _ HCB.out.1 HCB.out.2.1 HCB.out.2.2)
          have E04 : Hid (V4.cell? ⟨eb, 0, none⟩ = some (.int .i64 xn)) := by
            rw [← hV4]
            exact hide (by unfold World.cell?; rw [Below.heap_setCell V' ⟨cb, xn, none⟩ _ eb HEC.out]; exact E03.out)
          rw [hV4]
          clear hV4 hcx hcf e0 HC3 HK3 E03 hmb0 hmb1
          have e0 := E04.out
          have c0 := HC4.out.cell 0 (by omega)
          have l0 := HK4.out.L.cell (xn * 5 + 0) (by omega)
          have lf0 := HK4.out.L.frozenAt (xn * 5 + 0)
          have c1 := HC4.out.cell 1 (by omega)
          have l1 := HK4.out.L.cell (xn * 5 + 1) (by omega)
          have lf1 := HK4.out.L.frozenAt (xn * 5 + 1)
          have c2 := HC4.out.cell 2 (by omega)
          have l2 := HK4.out.L.cell (xn * 5 + 2) (by omega)
          have lf2 := HK4.out.L.frozenAt (xn * 5 + 2)
          have c3 := HC4.out.cell 3 (by omega)
          have l3 := HK4.out.L.cell (xn * 5 + 3) (by omega)
          have lf3 := HK4.out.L.frozenAt (xn * 5 + 3)
          have c4 := HC4.out.cell 4 (by omega)
          have l4 := HK4.out.L.cell (xn * 5 + 4) (by omega)
          have lf4 := HK4.out.L.frozenAt (xn * 5 + 4)
          rw [Nat.add_zero] at l0 lf0
          go_upto_region 11 with fail
          obtain ⟨V5, hV5⟩ : ∃ V5, (((((V4.setCell ⟨g, xn * 5, none⟩ (.int .i64 (cE l k 0))).setCell ⟨g, xn * 5 + 1, none⟩ (.int .i64 (cE l k 1))).setCell ⟨g, xn * 5 + 2, none⟩ (.int .i64 (cE l k 2))).setCell ⟨g, xn * 5 + 3, none⟩ (.int .i64 (cE l k 3))).setCell ⟨g, xn * 5 + 4, none⟩ (.int .i64 (cE l k 4))) = V5 := ⟨_, rfl⟩
          have HL5 : Hid (Arr 74 25 V5 w.heap.size g (LE l (k + 1))) := by
            rw [← hV5]
            exact hide ((((((HK4.out.L.set (xn * 5) _).set (xn * 5 + 1) _).set (xn * 5 + 2) _).set (xn * 5 + 3) _).set (xn * 5 + 4) _).congr (fun q hq => LE_succ l k xn HX.out q hq))
          have HO5 : Hid (V5.ownsRow (g + 1) 59 5 (Value.slice (some ⟨oq, 0, none⟩) k ocap) k (flat5 (cE l) k)) := by
            rw [← hV5]
            exact hide (own_setLt (own_setLt (own_setLt (own_setLt (own_setLt HK4.out.O g _ _ (by omega)) g _ _ (by omega)) g _ _ (by omega)) g _ _ (by omega)) g _ _ (by omega))
          have HC5 : Hid (Clk V5 w.heap.size cb (cE l k)) := by
            rw [← hV5]
            exact hide (((((HC4.out.keep _ _ (Ne.symm HCB.out.2.1)).keep _ _ (Ne.symm HCB.out.2.1)).keep _ _ (Ne.symm HCB.out.2.1)).keep _ _ (Ne.symm HCB.out.2.1)).keep _ _ (Ne.symm HCB.out.2.1))
          have B5 : Hid (Below w.heap.size w V5) := by
            rw [← hV5]
            exact hide (((((HK4.out.bel.setCell (p := ⟨g, xn * 5, none⟩) HWG.out _).setCell (p := ⟨g, xn * 5 + 1, none⟩) HWG.out _).setCell (p := ⟨g, xn * 5 + 2, none⟩) HWG.out _).setCell (p := ⟨g, xn * 5 + 3, none⟩) HWG.out _).setCell (p := ⟨g, xn * 5 + 4, none⟩) HWG.out _)
          rw [hV5]
          clear hV5 e0 E04 HK4 HC4 c0 c1 c2 c3 c4 l0 l1 l2 l3 l4 lf0 lf1 lf2 lf3 lf4
          have hgV := HL5.out.lt
          have hsz5 := B5.out.size
          have c0 := HC5.out.cell 0 (by omega)
          have c1 := HC5.out.cell 1 (by omega)
          have c2 := HC5.out.cell 2 (by omega)
          have c3 := HC5.out.cell 3 (by omega)
          have c4 := HC5.out.cell 4 (by omega)
          go_wp2_with (first
            | (at_builtin; refine wpList_append_own_at _ rfl _ _ 56 rfl (g + 1) 59 i1 (.agg #[.int .i64 0, .int .i64 0, .int .i64 0, .int .i64 0, .int .i64 0]) 5 40 Try.underlying56 hi1 hy0 hy1 hy2 rfl (by decide) _ _ _ rfl (HO5.out.alloc _) ⟨V5.heap.size, 0, none⟩ 1 1 (lA 5 (cE l k)) rfl (by simp [lA]) (cell_five _ _ rfl _ _) (by intro u hu; simp [lA] at hu; obtain ⟨q, _, rfl⟩ := hu; rfl) (by unfold maxLen; omega) (by omega) (by simp; omega) ?_)
            | go_in)
          intro v6 w6 hown6 hgrow6 _ hat6
          have hob : ∀ q, (Value.slice (some ⟨oq, 0, none⟩) k ocap).ownBlock = some q → g + 1 ≤ q := fun q hq => (HO5.out.lt q hq).1
          have hb6 : Below w.heap.size w w6 := (B5.out.alloc hsz5 _).grown hgrow6 (by simp; omega) (fun q hq => by have h1 := hob q hq; have h2 := HWG.out; omega)
          have harr6 : Arr 74 25 w6 w.heap.size g (LE l (k + 1)) := arr_grown2 (HL5.out.alloc _) hgrow6 (fun e => by have := hob g e; omega)
          have H7 : Hid (KC w w6 g v6 l (k + 1)) := hide ⟨harr6, hown6, hb6⟩
          clear hown6 hgrow6 harr6 hat6 hb6
          go_wp2
          go_roundw
          case rel => exact ⟨k + 1, by omega, by go_num, H7⟩
          case measure => simp [intOf]; omega
    · have hltI : ¬ (k : Int) < (n : Int) := by omega
      obtain rfl : k = n := by omega
      have HO := hide (own_baseT HKC.out.O (show w.heap.size ≤ g + 1 by have := HWG.out; omega))
      have B9 := hide HKC.out.bel
      clear HKC
      go_wp2
      go_ret
      exact ⟨_, rfl, HO.out, B9.out⟩
end Go.Proofs.Ytkfnejiiancmhah.L11
