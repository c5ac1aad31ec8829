/-
  Contracts: spec.l4Eval, spec.EvalQuery: the numbers of series that a query tells, in new memory.
-/
import Derived.Test.YthicdnkngpiccabL4Eval
namespace Go.Proofs.Ythicdnkngpiccab.L4
open Go.RowKit L1 L3
set_option linter.unusedVariables false

theorem apart_next {w5 : World} {B n : Nat} {u v v6 : Value} {xs : List Value} {o : Obj} (h : w5.ownsRow B 3 1 u n xs) (h0 : Apart u v) (hat : v6.ownBlock = v.ownBlock ∨ v6.ownBlock = some (w5.alloc o).heap.size) : Apart u v6 := by
  rcases h0 with h0 | h0
  · exact .inl h0
  · by_cases hn : u.ownBlock = none
    · exact .inl hn
    · refine .inr ?_
      rcases hat with e | e
      · rw [e]; exact h0
      · rw [e]
        intro q
        have := (h.lt _ q).2
        simp at this
        omega
theorem info_is : (Try.prog.info? 23).map (fun i => (i.zero, i.size, i.bytes)) = some (some (.slice none 0 0), 1, 24) := by kernel_rfl

set_option maxRecDepth 100000 in
set_option maxHeartbeats 16000000 in
theorem l4Eval_any (a : Option Addr) (ls : List (List Lb)) (n cap : Nat) (b : Option Addr) (q : List Qr) (n2 cap2 : Nat) (w : World) (hn : ls.length = n) (hs : SlS w a ls) (hg : GoodS ls) (hm : q.length = n2) (hq : SlQ w b q) (hgq : GoodQ q) :
    Calls Try.prog 45 #[.slice a n cap, .slice b n2 cap2] w fun e w' => RetI w ((ev ls q n2).getD (n2 - 1) []) e w' := by
  obtain ⟨i1, hi1, hy0, hy1, hy2⟩ := info_parts info_int
  obtain ⟨i2, hi2, hx0, hx1, hx2⟩ := info_parts info_is
  have hn60 : n ≤ 60 := by have := hg.1; omega
  have hq1 := hgq.1
  rw [hm] at hq1
  have HS := hide hs
  have HQ := hide hq
  have HM := hide hm
  have HGQ := hide hgq.2
  have HN := hide hn
  have HGS := hide hg.2
  clear hn hs hg hm hq hgq
  go_enter Try.func45, Try.ntmps45
  go_wp2
  go_loopw [5, 13] (fun ot i wr => ∃ k : Nat, k ≤ n ∧ i = .int .i64 k ∧ wr.ownsRow w.heap.size 3 1 ot k ((allN k).map (Value.int .i64)) ∧ Below w.heap.size w wr) (fun _ i _ => n - (intOf i).toNat)
  case atStart => exact ⟨0, Nat.zero_le _, rfl, World.ownsRow_nil _ _ _ _, Below.refl _ _⟩
  case round =>
    obtain ⟨k, hk, rfl, hown, hbel⟩ := hrel
    obtain ⟨aa, ac, rfl⟩ := own_shapeT hown
    have hsz := hbel.size
    have HALL0 := hide hown
    have B0 := hide hbel
    clear hown hbel
    by_cases hlt : k < n
    · have hltI : (k : Int) < (n : Int) := by omega
      go_wp2_with (first
        | (at_builtin; refine wpList_append_own _ rfl _ _ 23 rfl w.heap.size 3 i1 (.int .i64 0) 1 8 Try.underlying23 hi1 hy0 hy1 hy2 rfl (by decide) _ _ _ rfl (HALL0.out.alloc _) ⟨wr.heap.size, 0, none⟩ 1 1 [.int .i64 (k : Int)] rfl rfl (cell_one_new _ _ _) (by intro u hu; simp at hu; subst hu; rfl) (by unfold maxLen; omega) (by omega) (by simp; omega) ?_)
        | go_in)
      intro v6 w6 hown6 hgrow6 _
      have hb6 := B0.out.trans (((Below.refl _ _).alloc hsz _).grown hgrow6 (by simp; omega) (fun g hg => (HALL0.out.lt g hg).1))
      have hown7 : Hid (w6.ownsRow w.heap.size 3 1 v6 (k + 1) ((allN (k + 1)).map (Value.int .i64))) := by
        refine hide ?_
        rw [allN, List.map_append]
        simpa using hown6
      clear hown6 hgrow6
      go_wp2
      go_roundw
      case rel => exact ⟨k + 1, by omega, by go_num, hown7.out, hb6⟩
      case measure => simp [intOf]; omega
    · obtain rfl : k = n := by omega
      have hltI : ¬ (k : Int) < (k : Int) := by omega
      go_wp2
      go_loopw [7, 23] (fun ot i wq => ∃ j : Nat, j ≤ n2 ∧ i = .int .i64 j ∧ Told wq w.heap.size 23 ot (ev ls q j) ∧ wq.ownsRow w.heap.size 3 1 (.slice aa k ac) k ((allN k).map (Value.int .i64)) ∧ Hid (Apart (.slice aa k ac) ot) ∧ Below w.heap.size w wq) (fun _ i _ => n2 - (intOf i).toNat)
      case atStart => exact ⟨0, Nat.zero_le _, rfl, ⟨[], World.ownsRow_nil _ _ _ _, fun i hi => by simp [ev] at hi⟩, HALL0.out, by
        show Apart _ _
        by_cases hz : (Value.slice aa k ac).ownBlock = none
        · exact .inl hz
        · exact .inr (fun e => hz (by rw [e]; rfl)), B0.out⟩
      case round =>
        clear HALL0 B0 hsz
        obtain ⟨j, hj, rfl, ⟨vs, hrow, hin⟩, hall, HAPA, hbel⟩ := hrel
        rw [ev_len] at hrow
        obtain ⟨oa, ocap, rfl⟩ := own_shapeT hrow
        have hvl : vs.length = j := by have := hrow.1; omega
        by_cases hjl : j < n2
        · obtain ⟨qb, qoff, rfl, hA0⟩ := HQ.out j (by rw [HM.out]; exact hjl)
          have hA := hA0.base hbel (blk_lt hA0.k)
          have hokq := HGQ.out j (by rw [HM.out]; exact hjl)
          obtain ⟨⟨pk, pn, pv, pa, pb⟩, hp⟩ : ∃ p, p = q.getD j eQ := ⟨_, rfl⟩
          rw [← hp] at hA hokq
          have hstep : ev ls q (j + 1) = ev ls q j ++ [partL ls ⟨pk, pn, pv, pa, pb⟩ (ev ls q j)] := by rw [hp]; rfl
          have hev := ev_ok ls q j
          rw [HN.out] at hev
          obtain ⟨ts, hts⟩ : ∃ ts, ts = ev ls q j := ⟨_, rfl⟩
          rw [← hts] at hstep hev hin
          have htl : ts.length = j := by rw [hts]; exact ev_len ls q j
          have hjlI : (j : Int) < (n2 : Int) := by omega
          have hc0 := hA.k
          have hc1 := hA.n
          have hc2 := hA.v
          have hc3 := hA.a
          have hc4 := hA.b
          simp only at hc0 hc1 hc2 hc3 hc4
          have HEV := hide hev
          have HST := hide hstep
          have HTL := hide htl
          have HVL := hide hvl
          have HROW := hide hrow
          have HIN := hide hin
          have HALL := hide hall
          have B0 := hide hbel
          have HOB : Hid (∀ g, (Value.slice oa j ocap).ownBlock = some g → g < wr.heap.size) := fun g hg => (hrow.lt g hg).2
          have TL := hide (told_tl hrow hin)
          clear hA0 hA hp hstep hev hts htl hrow hin hall hbel hvl
          rcases hokq with h | h | h | h
          · obtain ⟨h1, h2, h3, h4, h5⟩ := h
            simp only at h1 h2 h3 h4 h5
            subst h1
            subst h4
            subst h5
            have HE : Hid (partL ls ⟨1, pn, pv, 0, 0⟩ ts = allN k) := by refine hide ?_; simp [partL, HN.out]
            clear h2 h3
            have hbx : Below wr.heap.size wr (wr.alloc (.cells #[.int .i64 1, .string pn, .string pv, .int .i64 0, .int .i64 0] 51)) := (Below.refl _ _).alloc (Nat.le_refl _) _
            obtain ⟨t, htt⟩ : ∃ t : List Int, t = allN k := ⟨_, rfl⟩
            obtain ⟨m, hmm⟩ : ∃ m, m = t.length := ⟨_, rfl⟩
            have hpl : m ≤ 60 := by
              have q1 := okT_len (okT_part (ls := ls) (p := ⟨1, pn, pv, 0, 0⟩) (ts := ts) (by rw [HN.out]; exact HEV.out))
              rw [HE.out, ← htt, ← hmm, HN.out] at q1
              omega
            have HST2 : Hid (ev ls q (j + 1) = ts ++ [t]) := by refine hide ?_; rw [HST.out, HE.out, ← htt]
            have HMM := hide hmm.symm
            have HROW3 := hide (own_belowT HROW.out hbx)
            have HIN3 := hide (HIN.out.below hbx)
            have HALL3 := hide (own_belowT HALL.out hbx)
            have TL3 := hide (TL.out.below hbx)
            have B3 := hide (B0.out.trans (hbx.mono B0.out.size))
            have HSZ3 : Hid (wr.heap.size < (wr.alloc (.cells #[.int .i64 1, .string pn, .string pv, .int .i64 0, .int .i64 0] 51)).heap.size) := by refine hide ?_; simp
            have HROW5 := HROW3
            have HIN5 := HIN3
            have HALL5 := HALL3
            have B5 := B3
            have hsz5 := B5.out.size
            have hmk : m = k := by rw [hmm, htt]; exact allN_len k
            have hszw := B0.out.size
            subst hmk
            have HX5 : Hid ((wr.alloc (.cells #[.int .i64 1, .string pn, .string pv, .int .i64 0, .int .i64 0] 51)).ownsRow w.heap.size 3 1 (.slice aa m ac) m (t.map (Value.int .i64))) := by refine hide ?_; rw [htt]; exact HALL3.out
            have HAP := HAPA
            clear htt hmm hbx HST HE
            go_wp2_with (first
              | (at_builtin; refine wpList_append_own_at _ rfl _ _ 89 rfl w.heap.size 23 i2 (.slice none 0 0) 1 24 Try.underlying89 hi2 hx0 hx1 hx2 rfl (by decide) _ _ _ rfl (HROW5.out.alloc _) ⟨wr.heap.size + 1, 0, none⟩ 1 1 [.slice aa m ac] rfl rfl (cell_one_two _ _ _ _) (by intro u hu; simp at hu; subst hu; rfl) (by unfold maxLen; omega) (by omega) (by simp; omega) ?_)
              | go_in)
            intro v6 w6 hown6 hgrow6 _ hat6
            have hb6 := B5.out.trans (((Below.refl _ _).alloc hsz5 _).grown hgrow6 (by simp; omega) (fun g hg => (HROW5.out.lt g hg).1))
            have T6 : Hid (Told w6 w.heap.size 23 v6 (ev ls q (j + 1))) := by
              refine hide ?_
              rw [HST2.out]
              refine ⟨vs ++ [.slice aa m ac], ?_, inn_snoc HMM.out (by rw [HVL.out, HTL.out]) HIN5.out HX5.out HAP.out hgrow6 (by simpa using hat6)⟩
              rw [List.length_append, HTL.out]
              exact hown6
            have HALL6 := hide ((HALL5.out.alloc (.cells #[.slice aa m ac] 23)).kept hgrow6 HAPA.out)
            have HAPA6 := hide (apart_next (o := .cells #[.slice aa m ac] 23) HALL5.out HAPA.out (by simpa using hat6))
            clear hown6 hgrow6 hat6
            go_wp2
            go_roundw
            case rel => exact ⟨j + 1, by omega, by go_num, T6.out, HALL6.out, HAPA6.out, hb6⟩
            case measure => simp [intOf]; omega
          · obtain ⟨h1, h2, h3, h4⟩ := h
            simp only at h1 h2 h3 h4
            subst h1
            subst h3
            subst h4
            have HE : Hid (partL ls ⟨2, pn, pv, 0, 0⟩ ts = hav ls (pn, pv) k) := by refine hide ?_; simp [partL, HN.out]
            clear h2
            have hbx : Below wr.heap.size wr (wr.alloc (.cells #[.int .i64 2, .string pn, .string pv, .int .i64 0, .int .i64 0] 51)) := (Below.refl _ _).alloc (Nat.le_refl _) _
            obtain ⟨t, htt⟩ : ∃ t : List Int, t = hav ls (pn, pv) k := ⟨_, rfl⟩
            obtain ⟨m, hmm⟩ : ∃ m, m = t.length := ⟨_, rfl⟩
            have hpl : m ≤ 60 := by
              have q1 := okT_len (okT_part (ls := ls) (p := ⟨2, pn, pv, 0, 0⟩) (ts := ts) (by rw [HN.out]; exact HEV.out))
              rw [HE.out, ← htt, ← hmm, HN.out] at q1
              omega
            have HST2 : Hid (ev ls q (j + 1) = ts ++ [t]) := by refine hide ?_; rw [HST.out, HE.out, ← htt]
            have HMM := hide hmm.symm
            have HROW3 := hide (own_belowT HROW.out hbx)
            have HIN3 := hide (HIN.out.below hbx)
            have HALL3 := hide (own_belowT HALL.out hbx)
            have TL3 := hide (TL.out.below hbx)
            have B3 := hide (B0.out.trans (hbx.mono B0.out.size))
            have HSZ3 : Hid (wr.heap.size < (wr.alloc (.cells #[.int .i64 2, .string pn, .string pv, .int .i64 0, .int .i64 0] 51)).heap.size) := by refine hide ?_; simp
            have C := hide (l4Posts_any a ls k cap pn pv _ HN.out (HS.out.below B3.out) (by omega) HGS.out)
            simp only [RetI, ← htt, ← hmm] at C
            clear htt hmm hbx HST HE
            go_wp2_with fail
            refine C.out.mono ?_
            rintro e w5 ⟨v5, rfl, ho, hb⟩
            have HROW5 := hide (own_belowT HROW3.out hb)
            have HIN5 := hide (HIN3.out.below hb)
            have HALL5 := hide (own_belowT HALL3.out hb)
            have B5 := hide (B3.out.trans (hb.mono B3.out.size))
            have hsz5 := B5.out.size
            obtain ⟨a5, c5, rfl⟩ := own_shapeT ho
            have HX5 := hide (own_baseT ho B3.out.size)
            have HAP : Hid (Apart (.slice a5 m c5) (.slice oa j ocap)) := by
              refine hide (apart_new (ys := []) (b2 := 0) (n2 := 0) (c2 := 0) (e2 := 0) ho (fun g hg => ?_))
              have := HOB.out g hg
              have := HSZ3.out
              omega
            clear ho hb
            go_wp2_with (first
              | (at_builtin; refine wpList_append_own_at _ rfl _ _ 89 rfl w.heap.size 23 i2 (.slice none 0 0) 1 24 Try.underlying89 hi2 hx0 hx1 hx2 rfl (by decide) _ _ _ rfl (HROW5.out.alloc _) ⟨w5.heap.size, 0, none⟩ 1 1 [.slice a5 m c5] rfl rfl (cell_one_new _ _ _) (by intro u hu; simp at hu; subst hu; rfl) (by unfold maxLen; omega) (by omega) (by simp; omega) ?_)
              | go_in)
            intro v6 w6 hown6 hgrow6 _ hat6
            have hb6 := B5.out.trans (((Below.refl _ _).alloc hsz5 _).grown hgrow6 (by simp; omega) (fun g hg => (HROW5.out.lt g hg).1))
            have T6 : Hid (Told w6 w.heap.size 23 v6 (ev ls q (j + 1))) := by
              refine hide ?_
              rw [HST2.out]
              refine ⟨vs ++ [.slice a5 m c5], ?_, inn_snoc HMM.out (by rw [HVL.out, HTL.out]) HIN5.out HX5.out HAP.out hgrow6 (by simpa using hat6)⟩
              rw [List.length_append, HTL.out]
              exact hown6
            have HALL6 := hide ((HALL5.out.alloc (.cells #[.slice a5 m c5] 23)).kept hgrow6 HAPA.out)
            have HAPA6 := hide (apart_next (o := .cells #[.slice a5 m c5] 23) HALL5.out HAPA.out (by simpa using hat6))
            clear hown6 hgrow6 hat6
            go_wp2
            go_roundw
            case rel => exact ⟨j + 1, by omega, by go_num, T6.out, HALL6.out, HAPA6.out, hb6⟩
            case measure => simp [intOf]; omega
          · obtain ⟨h1, h2, h3, h4, h5⟩ := h
            simp only at h1 h2 h3 h4 h5
            obtain ⟨i, rfl⟩ : ∃ i : Nat, pa = (i : Int) := ⟨pa.toNat, by omega⟩
            obtain ⟨i', rfl⟩ : ∃ i : Nat, pb = (i : Int) := ⟨pb.toNat, by omega⟩
            clear h2 h3
            rcases h1 with rfl | rfl
            · have HE : Hid (partL ls ⟨3, pn, pv, (i : Int), (i' : Int)⟩ ts = those (ts.getD i' []) true (ts.getD i [])) := by refine hide ?_; simp [partL]
              have hbx : Below wr.heap.size wr (wr.alloc (.cells #[.int .i64 3, .string pn, .string pv, .int .i64 (i : Int), .int .i64 (i' : Int)] 51)) := (Below.refl _ _).alloc (Nat.le_refl _) _
              obtain ⟨t, htt⟩ : ∃ t : List Int, t = those (ts.getD i' []) true (ts.getD i []) := ⟨_, rfl⟩
              obtain ⟨m, hmm⟩ : ∃ m, m = t.length := ⟨_, rfl⟩
              have hpl : m ≤ 60 := by
                have q1 := okT_len (okT_part (ls := ls) (p := ⟨3, pn, pv, (i : Int), (i' : Int)⟩) (ts := ts) (by rw [HN.out]; exact HEV.out))
                rw [HE.out, ← htt, ← hmm, HN.out] at q1
                omega
              have HST2 : Hid (ev ls q (j + 1) = ts ++ [t]) := by refine hide ?_; rw [HST.out, HE.out, ← htt]
              have HMM := hide hmm.symm
              have HROW3 := hide (own_belowT HROW.out hbx)
              have HIN3 := hide (HIN.out.below hbx)
              have HALL3 := hide (own_belowT HALL.out hbx)
              have TL3 := hide (TL.out.below hbx)
              have B3 := hide (B0.out.trans (hbx.mono B0.out.size))
              have HSZ3 : Hid (wr.heap.size < (wr.alloc (.cells #[.int .i64 3, .string pn, .string pv, .int .i64 (i : Int), .int .i64 (i' : Int)] 51)).heap.size) := by refine hide ?_; simp
              have ha := TL3.out i (by rw [HTL.out]; omega)
              have hb' := TL3.out i' (by rw [HTL.out]; omega)
              obtain ⟨tb, toff, rfl, xa, xc, hca, hsa⟩ := ha
              obtain ⟨tb', toff', e', ya, yc, hcb, hsb⟩ := hb'
              cases e'
              have oka := getD_ok HEV.out i
              have okb := getD_ok HEV.out i'
              obtain ⟨ta1, hta⟩ : ∃ t, t = ts.getD i [] := ⟨_, rfl⟩
              obtain ⟨tb1, htb⟩ : ∃ t, t = ts.getD i' [] := ⟨_, rfl⟩
              rw [← hta] at hca hsa oka htt
              rw [← htb] at hcb hsb okb htt
              have la := okT_len oka
              have lb := okT_len okb
              obtain ⟨na, hna⟩ : ∃ t, t = ta1.length := ⟨_, rfl⟩
              obtain ⟨nb, hnb⟩ : ∃ t, t = tb1.length := ⟨_, rfl⟩
              rw [← hna] at hca hsa la
              rw [← hnb] at hcb hsb lb
              have C := hide (fun w (h1 : SlC w xa na xc ta1) (h2 : SlC w ya nb yc tb1) => those_true xa ta1 na xc ya tb1 nb yc w hna.symm h1.sl (by omega) hnb.symm h2.sl (by omega))
              simp only [RetN, ← htt, ← hmm] at C
              have HSA := hide hsa
              have HSB := hide hsb
              have hiI : (i : Int) < (j : Int) := by omega
              have hiI' : (i' : Int) < (j : Int) := by omega
              obtain ⟨W3, hW3⟩ : ∃ W3, wr.alloc (.cells #[.int .i64 3, .string pn, .string pv, .int .i64 (i : Int), .int .i64 (i' : Int)] 51) = W3 := ⟨_, rfl⟩
              have c0 : W3.cell? ⟨wr.heap.size, 3, none⟩ = some (.int .i64 (i : Int)) := by rw [← hW3]; simp
              have c1 : W3.cell? ⟨wr.heap.size, 4, none⟩ = some (.int .i64 (i' : Int)) := by rw [← hW3]; simp
              rw [hW3] at hca hcb HROW3 HIN3 HALL3 TL3 B3 HSZ3 HSA HSB
              have HW := hide hW3
              clear htt hmm hbx HST HE hta htb hna hnb oka okb hsa hsb hW3
              go_wp2
              rw [HW.out]
              refine wp_region_held_drew (S := (fun wx => wx.cell? ⟨wr.heap.size, 3, none⟩ = some (.int .i64 (i : Int)) ∧ wx.cell? ⟨wr.heap.size, 4, none⟩ = some (.int .i64 (i' : Int)) ∧ wx.cell? ⟨tb, toff + i, none⟩ = some (.slice xa na xc) ∧ wx.cell? ⟨tb, toff + i', none⟩ = some (.slice ya nb yc) ∧ Below W3.heap.size W3 wx)) (by kernel_rfl) ⟨c0, c1, hca, hcb, (Below.refl _ _).drew⟩ (fun hHeld => ?_)
              refine wpAnyH_take (i := 0) (v := ?v1) rfl (by kernel_rfl) (by kernel_rfl) (by kernel_rfl) (fun _ _ _ h => h) (Or.inl ⟨by rfl, ?y1⟩) (by assumption) ?r1
              case y1 => (intro w hSw; (try dsimp only at hSw); go_simp; try (with_reducible rfl))
              simp only [List.getElem_toArray, List.getElem_cons_zero, Act.put, List.setIfInBounds_toArray, List.set_cons_zero, List.set_cons_succ]
              refine wpAnyH_take (i := 5) (v := ?v2) rfl (by kernel_rfl) (by kernel_rfl) (by kernel_rfl) (fun _ _ _ h => h) (Or.inl ⟨by rfl, ?y2⟩) (by assumption) ?r2
              case y2 => (intro w hSw; (try dsimp only at hSw); go_simp; try (with_reducible rfl))
              simp only [List.getElem_toArray, List.getElem_cons_succ, List.getElem_cons_zero, Act.put, List.setIfInBounds_toArray, List.set_cons_zero, List.set_cons_succ]
              refine wpAnyH_take (i := 1) (v := ?v3) rfl (by kernel_rfl) (by kernel_rfl) (by kernel_rfl) (fun _ _ _ h => h) (Or.inl ⟨by rfl, ?y3⟩) (by assumption) ?r3
              case y3 => (intro w hSw; (try dsimp only at hSw); go_simp; try (with_reducible rfl))
              simp only [List.getElem_toArray, List.getElem_cons_succ, List.getElem_cons_zero, Act.put, List.setIfInBounds_toArray, List.set_cons_zero, List.set_cons_succ]
              refine wpAnyH_take (i := 6) (v := ?v4) rfl (by kernel_rfl) (by kernel_rfl) (by kernel_rfl) (fun _ _ _ h => h) (Or.inl ⟨by rfl, ?y4⟩) (by assumption) ?r4
              case y4 => (intro w hSw; (try dsimp only at hSw); go_simp; try (with_reducible rfl))
              simp only [List.getElem_toArray, List.getElem_cons_succ, List.getElem_cons_zero, Act.put, List.setIfInBounds_toArray, List.set_cons_zero, List.set_cons_succ]
              refine wpAnyH_take (i := 2) (v := ?v5) rfl (by kernel_rfl) (by kernel_rfl) (by kernel_rfl) (fun _ _ _ h => h) (Or.inl ⟨by rfl, ?y5⟩) (by assumption) ?r5
              case y5 => (intro w hSw; (try dsimp only at hSw); go_simp; try (with_reducible rfl))
              simp only [List.getElem_toArray, List.getElem_cons_succ, List.getElem_cons_zero, Act.put, List.setIfInBounds_toArray, List.set_cons_zero, List.set_cons_succ]
              refine wpAnyH_take (i := 7) (v := ?v6) rfl (by kernel_rfl) (by kernel_rfl) (by kernel_rfl) (fun _ _ _ h => h) (Or.inl ⟨by rfl, ?y6⟩) (by assumption) ?r6
              case y6 => (intro w hSw; (try dsimp only at hSw); go_simp; try (with_reducible rfl))
              simp only [List.getElem_toArray, List.getElem_cons_succ, List.getElem_cons_zero, Act.put, List.setIfInBounds_toArray, List.set_cons_zero, List.set_cons_succ]
              refine wpAnyH_take (i := 3) (v := ?v7) rfl (by kernel_rfl) (by kernel_rfl) (by kernel_rfl) (fun _ _ _ h => h) (Or.inl ⟨by rfl, ?y7⟩) (by assumption) ?r7
              case y7 => (intro w hSw; (try dsimp only at hSw); go_simp; try (with_reducible rfl))
              simp only [List.getElem_toArray, List.getElem_cons_succ, List.getElem_cons_zero, Act.put, List.setIfInBounds_toArray, List.set_cons_zero, List.set_cons_succ]
              refine wpAnyH_take (i := 8) (v := ?v8) rfl (by kernel_rfl) (by kernel_rfl) (by kernel_rfl) (fun _ _ _ h => h) (Or.inl ⟨by rfl, ?y8⟩) (by assumption) ?r8
              case y8 => (intro w hSw; (try dsimp only at hSw); go_simp; try (with_reducible rfl))
              simp only [List.getElem_toArray, List.getElem_cons_succ, List.getElem_cons_zero, Act.put, List.setIfInBounds_toArray, List.set_cons_zero, List.set_cons_succ]
              refine wpAnyH_take (i := 4) (v := .slice xa na xc) rfl (by kernel_rfl) (by kernel_rfl) (by kernel_rfl) (fun _ _ _ h => h) (Or.inl ⟨by rfl, ?y9⟩) (by assumption) ?r9
              case y9 => (intro w hSw; obtain ⟨hq0, hq1, hq2, hq3, hq4⟩ := hSw; go_simp; try (with_reducible rfl))
              simp only [List.getElem_toArray, List.getElem_cons_succ, List.getElem_cons_zero, Act.put, List.setIfInBounds_toArray, List.set_cons_zero, List.set_cons_succ]
              refine wpAnyH_take (i := 9) (v := .slice ya nb yc) rfl (by kernel_rfl) (by kernel_rfl) (by kernel_rfl) (fun _ _ _ h => h) (Or.inl ⟨by rfl, ?y10⟩) (by assumption) ?r10
              case y10 => (intro w hSw; obtain ⟨hq0, hq1, hq2, hq3, hq4⟩ := hSw; go_simp; try (with_reducible rfl))
              simp only [List.getElem_toArray, List.getElem_cons_succ, List.getElem_cons_zero, Act.put, List.setIfInBounds_toArray, List.set_cons_zero, List.set_cons_succ]
              refine wpAnyH_ready (rs := [10]) (by kernel_rfl) (by simp) ?_
              refine AllReadyH.cons rfl (fun K hK => ?_) AllReadyH.nil
              simp only [List.getElem_toArray, List.getElem_cons_succ, List.getElem_cons_zero]
              go_simp
              go_at_call 33
              refine (C.out _ (HSA.out.below hHeld.2.2.2.2) (HSB.out.below hHeld.2.2.2.2)).mono ?_
              rintro e w5 ⟨v5, rfl, ho, hbw⟩
              have hb : Below W3.heap.size W3 w5 := hHeld.2.2.2.2.trans (hbw.mono hHeld.2.2.2.2.size)
              replace ho := own_baseT ho hHeld.2.2.2.2.size
              have hS5 : (fun wx => wx.cell? ⟨wr.heap.size, 3, none⟩ = some (.int .i64 (i : Int)) ∧ wx.cell? ⟨wr.heap.size, 4, none⟩ = some (.int .i64 (i' : Int)) ∧ wx.cell? ⟨tb, toff + i, none⟩ = some (.slice xa na xc) ∧ wx.cell? ⟨tb, toff + i', none⟩ = some (.slice ya nb yc) ∧ Below W3.heap.size W3 wx) w5 := ⟨(hbw.cell (p := ⟨wr.heap.size, 3, none⟩) (blk_lt hHeld.1)).trans hHeld.1, (hbw.cell (p := ⟨wr.heap.size, 4, none⟩) (blk_lt hHeld.2.1)).trans hHeld.2.1, (hbw.cell (p := ⟨tb, toff + i, none⟩) (blk_lt hHeld.2.2.1)).trans hHeld.2.2.1, (hbw.cell (p := ⟨tb, toff + i', none⟩) (blk_lt hHeld.2.2.2.1)).trans hHeld.2.2.2.1, hb⟩
              have HROW5 := hide (own_belowT HROW3.out hb)
              have HIN5 := hide (HIN3.out.below hb)
              have HALL5 := hide (own_belowT HALL3.out hb)
              have B5 := hide (B3.out.trans (hb.mono B3.out.size))
              have hsz5 := B5.out.size
              obtain ⟨a5, c5, rfl⟩ := own_shapeT ho
              have HX5 := hide (own_baseT ho B3.out.size)
              have HAP : Hid (Apart (.slice a5 m c5) (.slice (some ⟨tb, toff, none⟩) j ocap)) := by
                refine hide (apart_new (ys := []) (b2 := 0) (n2 := 0) (c2 := 0) (e2 := 0) ho (fun g hg => ?_))
                have := HOB.out g hg
                have := HSZ3.out
                omega
              clear ho hb hbw
              dsimp only
              refine hK.out _ _ hS5 (fun hHeld => ?_)
              clear hK K
              try simp only [Act.put, List.setIfInBounds_toArray, List.set_cons_zero, List.set_cons_succ]
              refine wpAnyH_take (i := 11) (v := ?v11) rfl (by kernel_rfl) (by kernel_rfl) (by kernel_rfl) (fun _ _ _ h => h) (Or.inl ⟨by rfl, ?y11⟩) (by assumption) ?r11
              case y11 => (intro w hSw; (try dsimp only at hSw); go_simp; try (with_reducible rfl))
              simp only [List.getElem_toArray, List.getElem_cons_succ, List.getElem_cons_zero, Act.put, List.setIfInBounds_toArray, List.set_cons_zero, List.set_cons_succ]
              refine wpAnyH_done (by kernel_rfl) ?_ _
              go_wp2_with (first
                | (at_builtin; refine wpList_append_own_at _ rfl _ _ 89 rfl w.heap.size 23 i2 (.slice none 0 0) 1 24 Try.underlying89 hi2 hx0 hx1 hx2 rfl (by decide) _ _ _ rfl (HROW5.out.alloc _) ⟨w5.heap.size, 0, none⟩ 1 1 [.slice a5 m c5] rfl rfl (cell_one_new _ _ _) (by intro u hu; simp at hu; subst hu; rfl) (by unfold maxLen; omega) (by omega) (by simp; omega) ?_)
                | go_in)
              intro v6 w6 hown6 hgrow6 _ hat6
              have hb6 := B5.out.trans (((Below.refl _ _).alloc hsz5 _).grown hgrow6 (by simp; omega) (fun g hg => (HROW5.out.lt g hg).1))
              have T6 : Hid (Told w6 w.heap.size 23 v6 (ev ls q (j + 1))) := by
                refine hide ?_
                rw [HST2.out]
                refine ⟨vs ++ [.slice a5 m c5], ?_, inn_snoc HMM.out (by rw [HVL.out, HTL.out]) HIN5.out HX5.out HAP.out hgrow6 (by simpa using hat6)⟩
                rw [List.length_append, HTL.out]
                exact hown6
              have HALL6 := hide ((HALL5.out.alloc (.cells #[.slice a5 m c5] 23)).kept hgrow6 HAPA.out)
              have HAPA6 := hide (apart_next (o := .cells #[.slice a5 m c5] 23) HALL5.out HAPA.out (by simpa using hat6))
              clear hown6 hgrow6 hat6
              go_wp2
              go_roundw
              case rel => exact ⟨j + 1, by omega, by go_num, T6.out, HALL6.out, HAPA6.out, hb6⟩
              case measure => simp [intOf]; omega
            · have HE : Hid (partL ls ⟨4, pn, pv, (i : Int), (i' : Int)⟩ ts = joinL (ts.getD i []) (ts.getD i' [])) := by refine hide ?_; simp [partL]
              have hbx : Below wr.heap.size wr (wr.alloc (.cells #[.int .i64 4, .string pn, .string pv, .int .i64 (i : Int), .int .i64 (i' : Int)] 51)) := (Below.refl _ _).alloc (Nat.le_refl _) _
              obtain ⟨t, htt⟩ : ∃ t : List Int, t = joinL (ts.getD i []) (ts.getD i' []) := ⟨_, rfl⟩
              obtain ⟨m, hmm⟩ : ∃ m, m = t.length := ⟨_, rfl⟩
              have hpl : m ≤ 60 := by
                have q1 := okT_len (okT_part (ls := ls) (p := ⟨4, pn, pv, (i : Int), (i' : Int)⟩) (ts := ts) (by rw [HN.out]; exact HEV.out))
                rw [HE.out, ← htt, ← hmm, HN.out] at q1
                omega
              have HST2 : Hid (ev ls q (j + 1) = ts ++ [t]) := by refine hide ?_; rw [HST.out, HE.out, ← htt]
              have HMM := hide hmm.symm
              have HROW3 := hide (own_belowT HROW.out hbx)
              have HIN3 := hide (HIN.out.below hbx)
              have HALL3 := hide (own_belowT HALL.out hbx)
              have TL3 := hide (TL.out.below hbx)
              have B3 := hide (B0.out.trans (hbx.mono B0.out.size))
              have HSZ3 : Hid (wr.heap.size < (wr.alloc (.cells #[.int .i64 4, .string pn, .string pv, .int .i64 (i : Int), .int .i64 (i' : Int)] 51)).heap.size) := by refine hide ?_; simp
              have ha := TL3.out i (by rw [HTL.out]; omega)
              have hb' := TL3.out i' (by rw [HTL.out]; omega)
              obtain ⟨tb, toff, rfl, xa, xc, hca, hsa⟩ := ha
              obtain ⟨tb', toff', e', ya, yc, hcb, hsb⟩ := hb'
              cases e'
              have oka := getD_ok HEV.out i
              have okb := getD_ok HEV.out i'
              obtain ⟨ta1, hta⟩ : ∃ t, t = ts.getD i [] := ⟨_, rfl⟩
              obtain ⟨tb1, htb⟩ : ∃ t, t = ts.getD i' [] := ⟨_, rfl⟩
              rw [← hta] at hca hsa oka htt
              rw [← htb] at hcb hsb okb htt
              have la := okT_len oka
              have lb := okT_len okb
              obtain ⟨na, hna⟩ : ∃ t, t = ta1.length := ⟨_, rfl⟩
              obtain ⟨nb, hnb⟩ : ∃ t, t = tb1.length := ⟨_, rfl⟩
              rw [← hna] at hca hsa la
              rw [← hnb] at hcb hsb lb
              have C := hide (fun w (h1 : SlC w xa na xc ta1) (h2 : SlC w ya nb yc tb1) => l4Join_any xa ta1 na xc ya tb1 nb yc w hna.symm h1 (by omega) hnb.symm h2.sl (by omega))
              simp only [RetN, ← htt, ← hmm] at C
              have HSA := hide hsa
              have HSB := hide hsb
              have hiI : (i : Int) < (j : Int) := by omega
              have hiI' : (i' : Int) < (j : Int) := by omega
              obtain ⟨W3, hW3⟩ : ∃ W3, wr.alloc (.cells #[.int .i64 4, .string pn, .string pv, .int .i64 (i : Int), .int .i64 (i' : Int)] 51) = W3 := ⟨_, rfl⟩
              have c0 : W3.cell? ⟨wr.heap.size, 3, none⟩ = some (.int .i64 (i : Int)) := by rw [← hW3]; simp
              have c1 : W3.cell? ⟨wr.heap.size, 4, none⟩ = some (.int .i64 (i' : Int)) := by rw [← hW3]; simp
              rw [hW3] at hca hcb HROW3 HIN3 HALL3 TL3 B3 HSZ3 HSA HSB
              have HW := hide hW3
              clear htt hmm hbx HST HE hta htb hna hnb oka okb hsa hsb hW3
              go_wp2
              rw [HW.out]
              refine wp_region_held_drew (S := (fun wx => wx.cell? ⟨wr.heap.size, 3, none⟩ = some (.int .i64 (i : Int)) ∧ wx.cell? ⟨wr.heap.size, 4, none⟩ = some (.int .i64 (i' : Int)) ∧ wx.cell? ⟨tb, toff + i, none⟩ = some (.slice xa na xc) ∧ wx.cell? ⟨tb, toff + i', none⟩ = some (.slice ya nb yc) ∧ Below W3.heap.size W3 wx)) (by kernel_rfl) ⟨c0, c1, hca, hcb, (Below.refl _ _).drew⟩ (fun hHeld => ?_)
              refine wpAnyH_take (i := 0) (v := ?v12) rfl (by kernel_rfl) (by kernel_rfl) (by kernel_rfl) (fun _ _ _ h => h) (Or.inl ⟨by rfl, ?y12⟩) (by assumption) ?r12
              case y12 => (intro w hSw; (try dsimp only at hSw); go_simp; try (with_reducible rfl))
              simp only [List.getElem_toArray, List.getElem_cons_zero, Act.put, List.setIfInBounds_toArray, List.set_cons_zero, List.set_cons_succ]
              refine wpAnyH_take (i := 5) (v := ?v13) rfl (by kernel_rfl) (by kernel_rfl) (by kernel_rfl) (fun _ _ _ h => h) (Or.inl ⟨by rfl, ?y13⟩) (by assumption) ?r13
              case y13 => (intro w hSw; (try dsimp only at hSw); go_simp; try (with_reducible rfl))
              simp only [List.getElem_toArray, List.getElem_cons_succ, List.getElem_cons_zero, Act.put, List.setIfInBounds_toArray, List.set_cons_zero, List.set_cons_succ]
              refine wpAnyH_take (i := 1) (v := ?v14) rfl (by kernel_rfl) (by kernel_rfl) (by kernel_rfl) (fun _ _ _ h => h) (Or.inl ⟨by rfl, ?y14⟩) (by assumption) ?r14
              case y14 => (intro w hSw; (try dsimp only at hSw); go_simp; try (with_reducible rfl))
              simp only [List.getElem_toArray, List.getElem_cons_succ, List.getElem_cons_zero, Act.put, List.setIfInBounds_toArray, List.set_cons_zero, List.set_cons_succ]
              refine wpAnyH_take (i := 6) (v := ?v15) rfl (by kernel_rfl) (by kernel_rfl) (by kernel_rfl) (fun _ _ _ h => h) (Or.inl ⟨by rfl, ?y15⟩) (by assumption) ?r15
              case y15 => (intro w hSw; (try dsimp only at hSw); go_simp; try (with_reducible rfl))
              simp only [List.getElem_toArray, List.getElem_cons_succ, List.getElem_cons_zero, Act.put, List.setIfInBounds_toArray, List.set_cons_zero, List.set_cons_succ]
              refine wpAnyH_take (i := 2) (v := ?v16) rfl (by kernel_rfl) (by kernel_rfl) (by kernel_rfl) (fun _ _ _ h => h) (Or.inl ⟨by rfl, ?y16⟩) (by assumption) ?r16
              case y16 => (intro w hSw; (try dsimp only at hSw); go_simp; try (with_reducible rfl))
              simp only [List.getElem_toArray, List.getElem_cons_succ, List.getElem_cons_zero, Act.put, List.setIfInBounds_toArray, List.set_cons_zero, List.set_cons_succ]
              refine wpAnyH_take (i := 7) (v := ?v17) rfl (by kernel_rfl) (by kernel_rfl) (by kernel_rfl) (fun _ _ _ h => h) (Or.inl ⟨by rfl, ?y17⟩) (by assumption) ?r17
              case y17 => (intro w hSw; (try dsimp only at hSw); go_simp; try (with_reducible rfl))
              simp only [List.getElem_toArray, List.getElem_cons_succ, List.getElem_cons_zero, Act.put, List.setIfInBounds_toArray, List.set_cons_zero, List.set_cons_succ]
              refine wpAnyH_take (i := 3) (v := ?v18) rfl (by kernel_rfl) (by kernel_rfl) (by kernel_rfl) (fun _ _ _ h => h) (Or.inl ⟨by rfl, ?y18⟩) (by assumption) ?r18
              case y18 => (intro w hSw; (try dsimp only at hSw); go_simp; try (with_reducible rfl))
              simp only [List.getElem_toArray, List.getElem_cons_succ, List.getElem_cons_zero, Act.put, List.setIfInBounds_toArray, List.set_cons_zero, List.set_cons_succ]
              refine wpAnyH_take (i := 8) (v := ?v19) rfl (by kernel_rfl) (by kernel_rfl) (by kernel_rfl) (fun _ _ _ h => h) (Or.inl ⟨by rfl, ?y19⟩) (by assumption) ?r19
              case y19 => (intro w hSw; (try dsimp only at hSw); go_simp; try (with_reducible rfl))
              simp only [List.getElem_toArray, List.getElem_cons_succ, List.getElem_cons_zero, Act.put, List.setIfInBounds_toArray, List.set_cons_zero, List.set_cons_succ]
              refine wpAnyH_take (i := 4) (v := .slice xa na xc) rfl (by kernel_rfl) (by kernel_rfl) (by kernel_rfl) (fun _ _ _ h => h) (Or.inl ⟨by rfl, ?y20⟩) (by assumption) ?r20
              case y20 => (intro w hSw; obtain ⟨hq0, hq1, hq2, hq3, hq4⟩ := hSw; go_simp; try (with_reducible rfl))
              simp only [List.getElem_toArray, List.getElem_cons_succ, List.getElem_cons_zero, Act.put, List.setIfInBounds_toArray, List.set_cons_zero, List.set_cons_succ]
              refine wpAnyH_take (i := 9) (v := .slice ya nb yc) rfl (by kernel_rfl) (by kernel_rfl) (by kernel_rfl) (fun _ _ _ h => h) (Or.inl ⟨by rfl, ?y21⟩) (by assumption) ?r21
              case y21 => (intro w hSw; obtain ⟨hq0, hq1, hq2, hq3, hq4⟩ := hSw; go_simp; try (with_reducible rfl))
              simp only [List.getElem_toArray, List.getElem_cons_succ, List.getElem_cons_zero, Act.put, List.setIfInBounds_toArray, List.set_cons_zero, List.set_cons_succ]
              refine wpAnyH_ready (rs := [10]) (by kernel_rfl) (by simp) ?_
              refine AllReadyH.cons rfl (fun K hK => ?_) AllReadyH.nil
              simp only [List.getElem_toArray, List.getElem_cons_succ, List.getElem_cons_zero]
              go_simp
              go_at_call 35
              refine (C.out _ (HSA.out.below hHeld.2.2.2.2) (HSB.out.below hHeld.2.2.2.2)).mono ?_
              rintro e w5 ⟨v5, rfl, ho, hbw⟩
              have hb : Below W3.heap.size W3 w5 := hHeld.2.2.2.2.trans (hbw.mono hHeld.2.2.2.2.size)
              replace ho := own_baseT ho hHeld.2.2.2.2.size
              have hS5 : (fun wx => wx.cell? ⟨wr.heap.size, 3, none⟩ = some (.int .i64 (i : Int)) ∧ wx.cell? ⟨wr.heap.size, 4, none⟩ = some (.int .i64 (i' : Int)) ∧ wx.cell? ⟨tb, toff + i, none⟩ = some (.slice xa na xc) ∧ wx.cell? ⟨tb, toff + i', none⟩ = some (.slice ya nb yc) ∧ Below W3.heap.size W3 wx) w5 := ⟨(hbw.cell (p := ⟨wr.heap.size, 3, none⟩) (blk_lt hHeld.1)).trans hHeld.1, (hbw.cell (p := ⟨wr.heap.size, 4, none⟩) (blk_lt hHeld.2.1)).trans hHeld.2.1, (hbw.cell (p := ⟨tb, toff + i, none⟩) (blk_lt hHeld.2.2.1)).trans hHeld.2.2.1, (hbw.cell (p := ⟨tb, toff + i', none⟩) (blk_lt hHeld.2.2.2.1)).trans hHeld.2.2.2.1, hb⟩
              have HROW5 := hide (own_belowT HROW3.out hb)
              have HIN5 := hide (HIN3.out.below hb)
              have HALL5 := hide (own_belowT HALL3.out hb)
              have B5 := hide (B3.out.trans (hb.mono B3.out.size))
              have hsz5 := B5.out.size
              obtain ⟨a5, c5, rfl⟩ := own_shapeT ho
              have HX5 := hide (own_baseT ho B3.out.size)
              have HAP : Hid (Apart (.slice a5 m c5) (.slice (some ⟨tb, toff, none⟩) j ocap)) := by
                refine hide (apart_new (ys := []) (b2 := 0) (n2 := 0) (c2 := 0) (e2 := 0) ho (fun g hg => ?_))
                have := HOB.out g hg
                have := HSZ3.out
                omega
              clear ho hb hbw
              dsimp only
              refine hK.out _ _ hS5 (fun hHeld => ?_)
              clear hK K
              try simp only [Act.put, List.setIfInBounds_toArray, List.set_cons_zero, List.set_cons_succ]
              refine wpAnyH_take (i := 11) (v := ?v22) rfl (by kernel_rfl) (by kernel_rfl) (by kernel_rfl) (fun _ _ _ h => h) (Or.inl ⟨by rfl, ?y22⟩) (by assumption) ?r22
              case y22 => (intro w hSw; (try dsimp only at hSw); go_simp; try (with_reducible rfl))
              simp only [List.getElem_toArray, List.getElem_cons_succ, List.getElem_cons_zero, Act.put, List.setIfInBounds_toArray, List.set_cons_zero, List.set_cons_succ]
              refine wpAnyH_done (by kernel_rfl) ?_ _
              go_wp2_with (first
                | (at_builtin; refine wpList_append_own_at _ rfl _ _ 89 rfl w.heap.size 23 i2 (.slice none 0 0) 1 24 Try.underlying89 hi2 hx0 hx1 hx2 rfl (by decide) _ _ _ rfl (HROW5.out.alloc _) ⟨w5.heap.size, 0, none⟩ 1 1 [.slice a5 m c5] rfl rfl (cell_one_new _ _ _) (by intro u hu; simp at hu; subst hu; rfl) (by unfold maxLen; omega) (by omega) (by simp; omega) ?_)
                | go_in)
              intro v6 w6 hown6 hgrow6 _ hat6
              have hb6 := B5.out.trans (((Below.refl _ _).alloc hsz5 _).grown hgrow6 (by simp; omega) (fun g hg => (HROW5.out.lt g hg).1))
              have T6 : Hid (Told w6 w.heap.size 23 v6 (ev ls q (j + 1))) := by
                refine hide ?_
                rw [HST2.out]
                refine ⟨vs ++ [.slice a5 m c5], ?_, inn_snoc HMM.out (by rw [HVL.out, HTL.out]) HIN5.out HX5.out HAP.out hgrow6 (by simpa using hat6)⟩
                rw [List.length_append, HTL.out]
                exact hown6
              have HALL6 := hide ((HALL5.out.alloc (.cells #[.slice a5 m c5] 23)).kept hgrow6 HAPA.out)
              have HAPA6 := hide (apart_next (o := .cells #[.slice a5 m c5] 23) HALL5.out HAPA.out (by simpa using hat6))
              clear hown6 hgrow6 hat6
              go_wp2
              go_roundw
              case rel => exact ⟨j + 1, by omega, by go_num, T6.out, HALL6.out, HAPA6.out, hb6⟩
              case measure => simp [intOf]; omega
          · obtain ⟨h1, h2, h3, h4, h5⟩ := h
            simp only at h1 h2 h3 h4 h5
            obtain ⟨i, rfl⟩ : ∃ i : Nat, pa = (i : Int) := ⟨pa.toNat, by omega⟩
            subst h1
            subst h5
            have HE : Hid (partL ls ⟨5, pn, pv, (i : Int), 0⟩ ts = those (ts.getD i []) false (allN k)) := by refine hide ?_; simp [partL, HN.out]
            clear h2 h3
            have hbx : Below wr.heap.size wr (wr.alloc (.cells #[.int .i64 5, .string pn, .string pv, .int .i64 (i : Int), .int .i64 0] 51)) := (Below.refl _ _).alloc (Nat.le_refl _) _
            obtain ⟨t, htt⟩ : ∃ t : List Int, t = those (ts.getD i []) false (allN k) := ⟨_, rfl⟩
            obtain ⟨m, hmm⟩ : ∃ m, m = t.length := ⟨_, rfl⟩
            have hpl : m ≤ 60 := by
              have q1 := okT_len (okT_part (ls := ls) (p := ⟨5, pn, pv, (i : Int), 0⟩) (ts := ts) (by rw [HN.out]; exact HEV.out))
              rw [HE.out, ← htt, ← hmm, HN.out] at q1
              omega
            have HST2 : Hid (ev ls q (j + 1) = ts ++ [t]) := by refine hide ?_; rw [HST.out, HE.out, ← htt]
            have HMM := hide hmm.symm
            have HROW3 := hide (own_belowT HROW.out hbx)
            have HIN3 := hide (HIN.out.below hbx)
            have HALL3 := hide (own_belowT HALL.out hbx)
            have TL3 := hide (TL.out.below hbx)
            have B3 := hide (B0.out.trans (hbx.mono B0.out.size))
            have HSZ3 : Hid (wr.heap.size < (wr.alloc (.cells #[.int .i64 5, .string pn, .string pv, .int .i64 (i : Int), .int .i64 0] 51)).heap.size) := by refine hide ?_; simp
            have ha := TL3.out i (by rw [HTL.out]; omega)
            obtain ⟨tb, toff, rfl, xa, xc, hca, hsa⟩ := ha
            have oka := getD_ok HEV.out i
            obtain ⟨ta1, hta⟩ : ∃ t, t = ts.getD i [] := ⟨_, rfl⟩
            rw [← hta] at hca hsa oka htt
            have la := okT_len oka
            obtain ⟨na, hna⟩ : ∃ t, t = ta1.length := ⟨_, rfl⟩
            rw [← hna] at hca hsa la
            have C := hide (those_false aa (allN k) k ac xa ta1 na xc _ (allN_len k) (own_slI HALL3.out) (by omega) hna.symm hsa.sl (by omega))
            simp only [RetN, ← htt, ← hmm] at C
            have hiI : (i : Int) < (j : Int) := by omega
            clear htt hmm hbx HST HE hta hna oka hsa
            go_wp2_with fail
            refine C.out.mono ?_
            rintro e w5 ⟨v5, rfl, ho, hb⟩
            have HROW5 := hide (own_belowT HROW3.out hb)
            have HIN5 := hide (HIN3.out.below hb)
            have HALL5 := hide (own_belowT HALL3.out hb)
            have B5 := hide (B3.out.trans (hb.mono B3.out.size))
            have hsz5 := B5.out.size
            obtain ⟨a5, c5, rfl⟩ := own_shapeT ho
            have HX5 := hide (own_baseT ho B3.out.size)
            have HAP : Hid (Apart (.slice a5 m c5) (.slice (some ⟨tb, toff, none⟩) j ocap)) := by
              refine hide (apart_new (ys := []) (b2 := 0) (n2 := 0) (c2 := 0) (e2 := 0) ho (fun g hg => ?_))
              have := HOB.out g hg
              have := HSZ3.out
              omega
            clear ho hb
            go_wp2_with (first
              | (at_builtin; refine wpList_append_own_at _ rfl _ _ 89 rfl w.heap.size 23 i2 (.slice none 0 0) 1 24 Try.underlying89 hi2 hx0 hx1 hx2 rfl (by decide) _ _ _ rfl (HROW5.out.alloc _) ⟨w5.heap.size, 0, none⟩ 1 1 [.slice a5 m c5] rfl rfl (cell_one_new _ _ _) (by intro u hu; simp at hu; subst hu; rfl) (by unfold maxLen; omega) (by omega) (by simp; omega) ?_)
              | go_in)
            intro v6 w6 hown6 hgrow6 _ hat6
            have hb6 := B5.out.trans (((Below.refl _ _).alloc hsz5 _).grown hgrow6 (by simp; omega) (fun g hg => (HROW5.out.lt g hg).1))
            have T6 : Hid (Told w6 w.heap.size 23 v6 (ev ls q (j + 1))) := by
              refine hide ?_
              rw [HST2.out]
              refine ⟨vs ++ [.slice a5 m c5], ?_, inn_snoc HMM.out (by rw [HVL.out, HTL.out]) HIN5.out HX5.out HAP.out hgrow6 (by simpa using hat6)⟩
              rw [List.length_append, HTL.out]
              exact hown6
            have HALL6 := hide ((HALL5.out.alloc (.cells #[.slice a5 m c5] 23)).kept hgrow6 HAPA.out)
            have HAPA6 := hide (apart_next (o := .cells #[.slice a5 m c5] 23) HALL5.out HAPA.out (by simpa using hat6))
            clear hown6 hgrow6 hat6
            go_wp2
            go_roundw
            case rel => exact ⟨j + 1, by omega, by go_num, T6.out, HALL6.out, HAPA6.out, hb6⟩
            case measure => simp [intOf]; omega
        · obtain rfl : j = n2 := by omega
          have hjlI : ¬ (j : Int) < (j : Int) := by omega
          obtain ⟨ai, ci, h1, h2, _⟩ := hin (j - 1) (by rw [ev_len]; omega)
          have h60 := okT_len (getD_ok (ev_ok ls q j) (j - 1))
          obtain ⟨t, ht⟩ : ∃ t, t = (ev ls q j).getD (j - 1) [] := ⟨_, rfl⟩
          rw [← ht] at h1 h2 h60
          have HT := hide ht.symm
          obtain ⟨m, hmm⟩ : ∃ m, m = t.length := ⟨_, rfl⟩
          rw [← hmm] at h1 h2 h60
          rw [HN.out] at h60
          obtain ⟨g, ocap', e', _⟩ : ∃ g c, Value.slice oa j ocap = .slice (some ⟨g, 0, none⟩) j c ∧ True := by
            rcases hrow.2 with ⟨_, h0⟩ | ⟨g, cap', cur, hv, _⟩
            · omega
            · exact ⟨g, cap', hv, trivial⟩
          cases e'
          have hc := hrow.cells (g := g) rfl (j - 1) _ h1
          rw [addr_add] at hc
          have hcx := (((Below.refl wr.heap.size wr).alloc (Nat.le_refl _) (.cells #[] 3)).cell (p := ⟨g, j - 1, none⟩) (blk_lt hc)).trans hc
          have hki : (j : Int) - 1 = ((j - 1 : Nat) : Int) := by omega
          have hki2 : ((j - 1 : Nat) : Int) < (j : Int) := by omega
          have hsz := hbel.size
          have HEM := hide (own_emptyI wr w.heap.size hbel.size)
          have HMM := hide hmm.symm
          have B0 := hide hbel
          rcases h2.2 with ⟨hv, h0⟩ | ⟨g2, cap2', cur2, hv, _⟩
          · cases hv
            obtain rfl : t = [] := List.eq_nil_of_length_eq_zero HMM.out
            clear h1 h2 hrow hin ht hmm hbel hc
            go_wp2_with fail
            try go_simp
            try go_wp2
            go_ret
            show RetI w ((ev ls q j).getD (j - 1) []) _ _
            rw [HT.out]
            exact ⟨_, rfl, HEM.out, B0.out.alloc hsz _⟩
          · cases hv
            have HSL := hide (own_slI (own_belowT h2 ((Below.refl wr.heap.size wr).alloc (Nat.le_refl _) (.cells #[] 3))))
            clear h1 h2 hrow hin ht hmm hbel hc
            go_wp2_with (first
              | (at_builtin; refine wpList_append_own _ rfl _ _ 23 rfl w.heap.size 3 i1 (.int .i64 0) 1 8 Try.underlying23 hi1 hy0 hy1 hy2 rfl (by decide) _ _ _ rfl HEM.out ⟨g2, 0, none⟩ m ci (t.map (Value.int .i64)) rfl (by have := HMM.out; simp; omega) (sl_all HSL.out) (ints_one _) (by unfold maxLen; omega) (by omega) (by simp; omega) ?_)
              | go_in)
            intro v6 w6 hown6 hgrow6 _
            have hb6 := B0.out.trans (((Below.refl _ _).alloc hsz _).grown hgrow6 (by simp; omega) (fun g hg => (HEM.out.lt g hg).1))
            have O6 : Hid (w6.ownsRow w.heap.size 3 1 v6 t.length (t.map (Value.int .i64))) := by refine hide ?_; rw [HMM.out]; simpa using hown6
            obtain ⟨a6, c6, rfl⟩ := own_shapeT hown6
            clear hown6 hgrow6
            go_wp2
            go_ret
            show RetI w ((ev ls q j).getD (j - 1) []) _ _
            rw [HT.out]
            exact ⟨_, rfl, O6.out, hb6⟩

set_option maxRecDepth 100000 in
set_option maxHeartbeats 4000000 in
theorem specEval_any (a : Option Addr) (ls : List (List Lb)) (n cap : Nat) (b : Option Addr) (q : List Qr) (n2 cap2 : Nat) (w : World) (hn : ls.length = n) (hs : SlS w a ls) (hn2 : n ≤ 1048576) (hst : TxS ls) (hls : ∀ i, i < ls.length → (ls.getD i []).length ≤ 1048576) (hm : q.length = n2) (hq : SlQ w b q) (hm2 : n2 ≤ 1048576) (hqt : TxQ q) (r : Option (List Int)) (hr : r = evRes ls q) :
    Calls Try.prog 20 #[.slice a n cap, .slice b n2 cap2] w fun e w' => RetL w r e w' := by
  by_cases hg : GoodS ls
  · have C1 := hide (l4Series_any a ls n cap w hn hs hn2 hst hls true (iff_of_true rfl hg))
    by_cases hgq : GoodQ q
    · have C2 := hide (fun w hq => specGoodQuery_any b q n2 cap2 w hm hq hm2 hqt true (iff_of_true rfl hgq))
      have C3 := hide (fun w hs hq => l4Eval_any a ls n cap b q n2 cap2 w hn hs hg hm hq hgq)
      have hr' : r = some ((ev ls q n2).getD (n2 - 1) []) := by rw [hr]; unfold evRes; rw [if_pos ⟨hg, hgq⟩, hm]
      have HR := hide hr'
      have HS := hide hs
      have HQ := hide hq
      clear hr hr' hg hgq hn hs hst hls hm hq hqt
      go_enter Try.func20, Try.ntmps20
      go_wp2_with fail
      refine C1.out.mono ?_
      rintro e w1 ⟨rfl, hb1⟩
      have B1 := hide hb1
      clear hb1
      go_wp2_with fail
      refine (C2.out _ (HQ.out.below B1.out)).mono ?_
      rintro e w2 ⟨rfl, hb2⟩
      have B2 := hide (B1.out.trans (hb2.mono B1.out.size))
      clear hb2
      go_wp2_with fail
      refine (C3.out _ (HS.out.below B2.out) (HQ.out.below B2.out)).mono ?_
      rintro e w3 ⟨v, rfl, ho, hb⟩
      have HO := hide (own_baseT ho B2.out.size)
      have HB := hide (B2.out.trans (hb.mono B2.out.size))
      obtain ⟨a5, c5, rfl⟩ := own_shapeT ho
      clear ho hb
      go_wp2
      go_ret2
      exact ⟨_, by rw [HR.out]; rfl, by rw [HR.out]; exact HO.out, HB.out⟩
    · have C2 := hide (fun w hq => specGoodQuery_any b q n2 cap2 w hm hq hm2 hqt false (iff_of_false (by simp) hgq))
      have hr' : r = none := by rw [hr]; unfold evRes; rw [if_neg (fun h => hgq h.2)]
      subst hr'
      have HQ := hide hq
      clear hr hg hgq hn hs hst hls hm hq hqt
      go_enter Try.func20, Try.ntmps20
      go_wp2_with fail
      refine C1.out.mono ?_
      rintro e w1 ⟨rfl, hb1⟩
      have B1 := hide hb1
      clear hb1
      go_wp2_with fail
      refine (C2.out _ (HQ.out.below B1.out)).mono ?_
      rintro e w2 ⟨rfl, hb2⟩
      have B2 := hide (B1.out.trans (hb2.mono B1.out.size))
      clear hb2
      go_wp2
      go_ret2
      exact ⟨_, rfl, World.ownsRow_nil _ _ _ _, B2.out⟩
  · have C1 := hide (l4Series_any a ls n cap w hn hs hn2 hst hls false (iff_of_false (by simp) hg))
    have hr' : r = none := by rw [hr]; unfold evRes; rw [if_neg (fun h => hg h.1)]
    subst hr'
    clear hr hg hn hs hst hls hm hq hqt
    go_enter Try.func20, Try.ntmps20
    go_wp2_with fail
    refine C1.out.mono ?_
    rintro e w1 ⟨rfl, hb1⟩
    go_wp2
    go_ret2
    exact ⟨_, rfl, World.ownsRow_nil _ _ _ _, hb1⟩
end Go.Proofs.Ythicdnkngpiccab.L4
