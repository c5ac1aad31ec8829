/-
  The walk of the law FnClocks: it returns true at every two lists of bytes; memory that was there stays as it was.
-/
import Derived.Test.YtkfnejiiancmhadBundle4
import Derived.Test.YtkfnejiiancmhadBundle5
import Derived.Test.YtkfnejiiancmhadBundle6
import Derived.Test.YtkfnejiiancmhadBundle7
import Derived.Deep.DeepCutAuto
namespace Go.Proofs.Ytkfnejiiancmhad.fnClocks
open Go.RowKit L1 L4 L11 Own
set_option linter.unusedVariables false

open Classical in
set_option maxRecDepth 100000 in
set_option maxHeartbeats 4000000 in
theorem walk (a0 : Option Addr) (len0 cap0 : Nat) (z0 : List Int) (a1 : Option Addr) (len1 cap1 : Nat) (z1 : List Int) (w : World) (w0 : IsRow .u8 w a0 len0 cap0 z0) (hr0 : len0 ≤ 140737488351232) (w1 : IsRow .u8 w a1 len1 cap1 z1) (hr1 : len1 ≤ 140737488351232) :
    Calls Try.prog 5 #[.slice a0 len0 cap0, .slice a1 len1 cap1] w fun e w' => e = .returned (.bool true) ∧ Below w.heap.size w w' := by
  have S0 := hide (slb_of_row w0)
  have S1 := hide (slb_of_row w1)
  clear w0 w1
  by_cases hsz : 1048576 < (len0 : Int) + (len1 : Int)
  · go_enter Try.func5, Try.ntmps5
    go_wp2
    go_ret
    exact ⟨rfl, Below.refl _ _⟩
  have hl0 : len0 ≤ 1048576 := by omega
  have hl1 : len1 ≤ 1048576 := by omega
  go_enter Try.func5, Try.ntmps5
  go_wp2_with fail
  refine (drawCame_any a0 len0 cap0 _ S0.out hl0).mono ?_
  rintro e v1 ⟨nn, k, v, x, y, rfl, hnb, hk41, ho, hx, hy, hb⟩
  obtain ⟨l, hll, hol⟩ := ho
  obtain ⟨la, lc, hv, sl, _⟩ := own_form2 hol
  subst hv
  obtain ⟨Nn, hNn⟩ : ∃ Nn : Nat, nn = (Nn : Int) := ⟨nn.toNat, by omega⟩
  subst hNn
  obtain ⟨X, hX⟩ : ∃ X : Nat, x = (X : Int) := ⟨x.toNat, by omega⟩
  subst hX
  obtain ⟨Y, hY⟩ : ∃ Y : Nat, y = (Y : Int) := ⟨y.toNat, by omega⟩
  subst hY
  obtain ⟨c, hc⟩ : ∃ c : Bool, c = true ↔ CFok Nn l X Y := ⟨decide (CFok Nn l X Y), by simp⟩
  obtain ⟨r, hr⟩ : ∃ r : Bool, r = true ↔ CFok Nn l X Y ∧ Anc l X Y := ⟨decide (CFok Nn l X Y ∧ Anc l X Y), by simp⟩
  obtain ⟨c2, hc2⟩ : ∃ c : Bool, c = true ↔ CFok Nn l Y X := ⟨decide (CFok Nn l Y X), by simp⟩
  obtain ⟨r2, hr2⟩ : ∃ r : Bool, r = true ↔ CFok Nn l Y X ∧ Anc l Y X := ⟨decide (CFok Nn l Y X ∧ Anc l Y X), by simp⟩
  obtain ⟨gd, hgd⟩ : ∃ g : Bool, g = true ↔ GoodV Nn l := ⟨decide (GoodV Nn l), by simp⟩
  obtain ⟨m, hm⟩ : ∃ m, m = if gd then k else 0 := ⟨_, rfl⟩
  obtain ⟨sr, hsr⟩ : ∃ sr, sr = stRes Nn l := ⟨_, rfl⟩
  have hk2 : k ≤ 1048576 := by omega
  have hN2 : Nn ≤ 1048576 := by omega
  have hNI : (Nn : Int) ≤ 9223372036854775807 := by omega
  have hm2 : m ≤ 1048576 := by
    rw [hm]; split <;> omega
  have CA := hide (fun wx h => cameFirst_any Nn la l k lc X Y wx hll h hk2 c r hc hr)
  have CB := hide (fun wx h => specCame_any Nn la l k lc X Y wx hll h hk2 hNI c r hc hr)
  have CC := hide (fun wx h => clocksOfI_any Nn la l k lc wx hll h hk2 gd hgd m hm)
  have CD := hide (fun wx h => specClocks_any Nn la l k lc wx hll h hk2 hNI gd hgd m hm)
  have ce := fun wx h => stampsOf_any Nn la l k lc wx hll h hk2 sr hsr
  have cf := fun wx h => specStamps_any Nn la l k lc wx hll h hk2 hNI sr hsr
  have CG := hide (fun wx h => goodEvents_any Nn la l k lc wx hll h hk2 gd hgd)
  have CH := hide (fun wx h => cameFirst_any Nn la l k lc Y X wx hll h hk2 c2 r2 hc2 hr2)
  obtain ⟨ss, hss⟩ : ∃ ss, ss = sr.getD [] := ⟨_, rfl⟩
  obtain ⟨sn, hsn⟩ : ∃ sn, sn = ss.length := ⟨_, rfl⟩
  obtain ⟨two, htwo⟩ : ∃ b, b = sr.isSome := ⟨_, rfl⟩
  simp only [RetL, ← hss, ← hsn, ← htwo] at ce cf
  have CE := hide ce
  have CF := hide cf
  have hNt : (Nn : Int).toNat = Nn := rfl
  have hsn2 : sn ≤ 1048576 := by
    rw [hsn, hss, hsr]; unfold stRes
    split
    · simp only [Option.getD_some, stps_len]; omega
    · simp
  have HOK : Hid (c = true → (gd = true ∧ m = k ∧ two = true ∧ sn = k ∧ ss = stps l k) ∧ GoodV Nn l ∧ X < k ∧ Y < k ∧ c2 = true ∧ (r = true ↔ Anc l X Y) ∧ (r2 = true ↔ Anc l Y X)) := hide (fun h => by
    have h1 := hc.1 h
    have hg := h1.1
    have e1 : gd = true := hgd.2 hg
    have hX1 := h1.2.1.2
    have hY1 := h1.2.2.2
    have hcf2 : CFok Nn l Y X := ⟨hg, h1.2.2, h1.2.1⟩
    have e2 : sr = some (stps l k) := by rw [hsr]; unfold stRes; rw [if_pos hg, hll]
    refine ⟨⟨e1, by rw [hm, e1]; rfl, by rw [htwo, e2]; rfl, by rw [hsn, hss, e2]; simp [stps_len], by rw [hss, e2]; rfl⟩, hg, by omega, by omega, hc2.2 hcf2, hr.trans ⟨fun h => h.2, fun h => ⟨h1, h⟩⟩, hr2.trans ⟨fun h => h.2, fun h => ⟨hcf2, h⟩⟩⟩)
  have HSN := hide hsn.symm
  have HLL := hide hll
  have B1 := hide hb
  have L1 := hide sl
  clear ce cf hss hsn htwo hsr hc hr hc2 hr2 hgd hm hb hol sl hll
  go_wp2_with fail
  refine (unhide CA _ L1.out).mono ?_
  rintro e v2 ⟨rfl, hb⟩
  have B2 := hide (B1.out.trans (hb.mono B1.out.size))
  have L2 := hide (L1.out.below hb)
  clear hb B1 L1
  go_wp2_with fail
  refine (unhide CB _ L2.out).mono ?_
  rintro e v3 ⟨rfl, hb⟩
  have B3 := hide (B2.out.trans (hb.mono B2.out.size))
  have L3 := hide (L2.out.below hb)
  clear hb B2 L2
  go_wp2_with fail
  refine (unhide CC _ L3.out).mono ?_
  rintro e v4 ⟨cv1, rfl, hs, hb⟩
  rw [hNt] at hs
  have B4 := hide (B3.out.trans (hb.mono B3.out.size))
  have L4 := hide (L3.out.below hb)
  have R4 := hide hs
  clear hb hs B3 L3
  go_wp2_with fail
  refine (unhide CD _ L4.out).mono ?_
  rintro e v5 ⟨cv2, rfl, hs, hb⟩
  rw [hNt] at hs
  have B5 := hide (B4.out.trans (hb.mono B4.out.size))
  have L5 := hide (L4.out.below hb)
  have R5 := hide (R4.out.below hb)
  have Q5 := hide hs
  clear hb hs B4 L4 R4
  go_wp2_with fail
  refine (unhide CE _ L5.out).mono ?_
  rintro e v6 ⟨sv1, rfl, ho, hb⟩
  obtain ⟨sa, sc, rfl, hso, _⟩ := own_form ho
  have B6 := hide (B5.out.trans (hb.mono B5.out.size))
  have L6 := hide (L5.out.below hb)
  have R6 := hide (R5.out.below hb)
  have Q6 := hide (Q5.out.below hb)
  have S6 := hide hso
  clear hb ho hso B5 L5 R5 Q5
  go_wp2_with fail
  refine (unhide CF _ L6.out).mono ?_
  rintro e v7 ⟨sv2, rfl, ho, hb⟩
  obtain ⟨ta, tc, rfl, hto, _⟩ := own_form ho
  have B7 := hide (B6.out.trans (hb.mono B6.out.size))
  have L7 := hide (L6.out.below hb)
  have R7 := hide (R6.out.below hb)
  have Q7 := hide (Q6.out.below hb)
  have S7 := hide (S6.out.below hb)
  have T7 := hide hto
  clear hb ho hto B6 L6 R6 Q6 S6 CA CB CC CD CE CF
  go_wp2_with fail
  refine (sameRows_any cv1 cv2 m Nn (cE l) _ _ _ _ _ hm2 hN2 R7.out Q7.out).mono ?_
  rintro e v8 ⟨rfl, hb⟩
  have B8 := hide (B7.out.trans (hb.mono B7.out.size))
  have L8 := hide (L7.out.below hb)
  have R8 := hide (R7.out.below hb)
  have S8 := hide (S7.out.below hb)
  have T8 := hide (T7.out.below hb)
  clear hb B7 L7 R7 Q7 S7 T7
  go_wp2_with fail
  refine (sameInts_any sa ta ss sn _ _ _ HSN.out S8.out T8.out hsn2).mono ?_
  rintro e v9 ⟨rfl, hb⟩
  have B9 := hide (B8.out.trans (hb.mono B8.out.size))
  have L9 := hide (L8.out.below hb)
  have R9 := hide (R8.out.below hb)
  have S9 := hide (S8.out.below hb)
  clear hb B8 L8 R8 S8 T8
  go_wp2_with fail
  refine (unhide CG _ L9.out).mono ?_
  rintro e va ⟨rfl, hb⟩
  have BA := hide (B9.out.trans (hb.mono B9.out.size))
  have LA := hide (L9.out.below hb)
  have RA := hide (R9.out.below hb)
  have SA := hide (S9.out.below hb)
  clear hb B9 L9 R9 S9 CG
  go_upto_if 121 with fail
  go_cut [] (fun wx => Below w.heap.size w wx)
  case first =>
    cases c with
    | false =>
      go_wp2_with fail
      go_meet
      exact BA.out
    | true =>
      obtain ⟨⟨hgd, hmk, htwo, hsk, hse⟩, hg, hXk, hYk, hc2, hr, hr2⟩ := HOK.out (by first | rfl | trivial)
      subst hgd
      subst htwo
      subst hc2
      subst hmk
      have hlm := HLL.out
      have CL := hide (fun wx a b ca cb h1 h2 => lessClock_any a b (clL (cE l X) Nn) (clL (cE l Y) Nn) Nn Nn ca cb wx (clL_len _ _) (clL_len _ _) h1 h2 hN2 hN2 true r (by simp; exact two_clk hg X Y (by omega) (by omega)) (hr.trans ⟨fun h => ⟨two_clk hg X Y (by omega) (by omega), (ls_clk hg X Y (by omega) (by omega)).2 h⟩, fun h => (ls_clk hg X Y (by omega) (by omega)).1 h.2⟩))
      obtain ⟨bs, cs, hV⟩ := RA.out
      obtain ⟨oa, ocap, hov⟩ := hV.form
      subst hov
      obtain ⟨oq, hoq, hcell⟩ := hV.addr (by omega)
      subst hoq
      have e1 := hcell X hXk
      have e2 := hcell Y hYk
      have s1 := hV.sl X hXk
      have s2 := hV.sl Y hYk
      obtain ⟨d1, hd1⟩ : ∃ d, d = bs X := ⟨_, rfl⟩
      obtain ⟨d2, hd2⟩ : ∃ d, d = bs Y := ⟨_, rfl⟩
      obtain ⟨p1, hp1⟩ : ∃ d, d = cs X := ⟨_, rfl⟩
      obtain ⟨p2, hp2⟩ : ∃ d, d = cs Y := ⟨_, rfl⟩
      rw [← hd1] at e1 s1
      rw [← hp1] at e1
      rw [← hd2] at e2 s2
      rw [← hp2] at e2
      have s1' : Sl va (some ⟨d1, 0, none⟩) (clL (cE l X) Nn) := s1
      have s2' : Sl va (some ⟨d2, 0, none⟩) (clL (cE l Y) Nn) := s2
      have CLL : Hid (∀ wx, Below va.heap.size va wx → Calls Try.prog 40 #[.slice (some ⟨d1, 0, none⟩) Nn p1, .slice (some ⟨d2, 0, none⟩) Nn p2] wx fun e w' => e = .returned (.tuple #[.bool r, .bool true]) ∧ Below wx.heap.size wx w') := hide (fun wx hb => CL.out wx _ _ p1 p2 (s1'.below hb) (s2'.below hb))
      have hXI : (X : Int) < (m : Int) := by omega
      have hX0 : (0 : Int) ≤ (X : Int) := by omega
      have hYI : (Y : Int) < (m : Int) := by omega
      have hY0 : (0 : Int) ≤ (Y : Int) := by omega
      subst hse
      have HRR := hide hr
      have HRR2 := hide hr2
      have HSK : Hid (sn = m) := hsk
      clear hsk hV hcell s1 s2 s1' s2' hd1 hd2 hp1 hp2 hr hr2 CL RA
      go_upto_region 13 with fail
      refine wp_region_held_drew (S := (fun wx => wx.cell? ⟨oq, X, none⟩ = some (.slice (some ⟨d1, 0, none⟩) Nn p1) ∧ wx.cell? ⟨oq, Y, none⟩ = some (.slice (some ⟨d2, 0, none⟩) Nn p2) ∧ Below va.heap.size va wx)) (by kernel_rfl) ⟨e1, e2, (Below.refl _ _).drew⟩ (fun hHeld => ?_)
      refine wpAnyH_take (i := 0) (v := ?v10) rfl (by kernel_rfl) (by kernel_rfl) (by kernel_rfl) (fun _ _ _ h => h) (Or.inl ⟨by rfl, ?y10⟩) (by assumption) ?r10
      case y10 => (intro w hSw; (try dsimp only at hSw); go_simp; try (with_reducible rfl))
      simp only [List.getElem_toArray, List.getElem_cons_zero, Act.put, List.setIfInBounds_toArray, List.set_cons_zero, List.set_cons_succ]
      refine wpAnyH_take (i := 1) (v := ?v11) rfl (by kernel_rfl) (by kernel_rfl) (by kernel_rfl) (fun _ _ _ h => h) (Or.inl ⟨by rfl, ?y11⟩) (by assumption) ?r11
      case y11 => (intro w hSw; (try dsimp only at hSw); go_simp; try (with_reducible rfl))
      simp only [List.getElem_toArray, List.getElem_cons_succ, List.getElem_cons_zero, Act.put, List.setIfInBounds_toArray, List.set_cons_zero, List.set_cons_succ]
      refine wpAnyH_take (i := 2) (v := ?v12) rfl (by kernel_rfl) (by kernel_rfl) (by kernel_rfl) (fun _ _ _ h => h) (Or.inl ⟨by rfl, ?y12⟩) (by assumption) ?r12
      case y12 => (intro w hSw; (try dsimp only at hSw); go_simp; try (with_reducible rfl))
      simp only [List.getElem_toArray, List.getElem_cons_succ, List.getElem_cons_zero, Act.put, List.setIfInBounds_toArray, List.set_cons_zero, List.set_cons_succ]
      refine wpAnyH_take (i := 3) (v := ?v13) rfl (by kernel_rfl) (by kernel_rfl) (by kernel_rfl) (fun _ _ _ h => h) (Or.inl ⟨by rfl, ?y13⟩) (by assumption) ?r13
      case y13 => (intro w hSw; (try dsimp only at hSw); go_simp; try (with_reducible rfl))
      simp only [List.getElem_toArray, List.getElem_cons_succ, List.getElem_cons_zero, Act.put, List.setIfInBounds_toArray, List.set_cons_zero, List.set_cons_succ]
      refine wpAnyH_take (i := 4) (v := ?v14) rfl (by kernel_rfl) (by kernel_rfl) (by kernel_rfl) (fun _ _ _ h => h) (Or.inl ⟨by rfl, ?y14⟩) (by assumption) ?r14
      case y14 => (intro w hSw; (try dsimp only at hSw); go_simp; try (with_reducible rfl))
      simp only [List.getElem_toArray, List.getElem_cons_succ, List.getElem_cons_zero, Act.put, List.setIfInBounds_toArray, List.set_cons_zero, List.set_cons_succ]
      refine wpAnyH_take (i := 5) (v := ?v15) rfl (by kernel_rfl) (by kernel_rfl) (by kernel_rfl) (fun _ _ _ h => h) (Or.inl ⟨by rfl, ?y15⟩) (by assumption) ?r15
      case y15 => (intro w hSw; (try dsimp only at hSw); go_simp; try (with_reducible rfl))
      simp only [List.getElem_toArray, List.getElem_cons_succ, List.getElem_cons_zero, Act.put, List.setIfInBounds_toArray, List.set_cons_zero, List.set_cons_succ]
      refine wpAnyH_take (i := 6) (v := ?v16) rfl (by kernel_rfl) (by kernel_rfl) (by kernel_rfl) (fun _ _ _ h => h) (Or.inl ⟨by rfl, ?y16⟩) (by assumption) ?r16
      case y16 => (intro w hSw; (try dsimp only at hSw); go_simp; try (with_reducible rfl))
      simp only [List.getElem_toArray, List.getElem_cons_succ, List.getElem_cons_zero, Act.put, List.setIfInBounds_toArray, List.set_cons_zero, List.set_cons_succ]
      refine wpAnyH_take (i := 7) (v := ?v17) rfl (by kernel_rfl) (by kernel_rfl) (by kernel_rfl) (fun _ _ _ h => h) (Or.inl ⟨by rfl, ?y17⟩) (by assumption) ?r17
      case y17 => (intro w hSw; (try dsimp only at hSw); go_simp; try (with_reducible rfl))
      simp only [List.getElem_toArray, List.getElem_cons_succ, List.getElem_cons_zero, Act.put, List.setIfInBounds_toArray, List.set_cons_zero, List.set_cons_succ]
      refine wpAnyH_ready (rs := [8]) (by kernel_rfl) (by simp) ?_
      refine AllReadyH.cons rfl (fun K hK => ?_) AllReadyH.nil
      simp only [List.getElem_toArray, List.getElem_cons_succ, List.getElem_cons_zero]
      go_simp
      go_at_call 40
      refine (CLL.out _ hHeld.2.2).mono ?_
      rintro e w1 ⟨rfl, hb⟩
      dsimp only
      refine hK.out _ _ ?_ (fun hHeld => ?_)
      · exact ⟨(hb.cell (p := ⟨oq, X, none⟩) (blk_lt hHeld.1)).trans hHeld.1, (hb.cell (p := ⟨oq, Y, none⟩) (blk_lt hHeld.2.1)).trans hHeld.2.1, hHeld.2.2.trans (hb.mono hHeld.2.2.size)⟩
      clear hK K
      try simp only [Act.put, List.setIfInBounds_toArray, List.set_cons_zero, List.set_cons_succ]
      refine wpAnyH_take (i := 9) (v := ?v18) rfl (by kernel_rfl) (by kernel_rfl) (by kernel_rfl) (fun _ _ _ h => h) (Or.inl ⟨by rfl, ?y18⟩) (by assumption) ?r18
      case y18 => (intro w hSw; (try dsimp only at hSw); go_simp; try (with_reducible rfl))
      simp only [List.getElem_toArray, List.getElem_cons_succ, List.getElem_cons_zero, Act.put, List.setIfInBounds_toArray, List.set_cons_zero, List.set_cons_succ]
      refine wpAnyH_take (i := 10) (v := ?v19) rfl (by kernel_rfl) (by kernel_rfl) (by kernel_rfl) (fun _ _ _ h => h) (Or.inl ⟨by rfl, ?y19⟩) (by assumption) ?r19
      case y19 => (intro w hSw; (try dsimp only at hSw); go_simp; try (with_reducible rfl))
      simp only [List.getElem_toArray, List.getElem_cons_succ, List.getElem_cons_zero, Act.put, List.setIfInBounds_toArray, List.set_cons_zero, List.set_cons_succ]
      refine wpAnyH_take (i := 11) (v := ?v20) rfl (by kernel_rfl) (by kernel_rfl) (by kernel_rfl) (fun _ _ _ h => h) (Or.inl ⟨by rfl, ?y20⟩) (by assumption) ?r20
      case y20 => (intro w hSw; (try dsimp only at hSw); go_simp; try (with_reducible rfl))
      simp only [List.getElem_toArray, List.getElem_cons_succ, List.getElem_cons_zero, Act.put, List.setIfInBounds_toArray, List.set_cons_zero, List.set_cons_succ]
      refine wpAnyH_take (i := 12) (v := ?v21) rfl (by kernel_rfl) (by kernel_rfl) (by kernel_rfl) (fun _ _ _ h => h) (Or.inl ⟨by rfl, ?y21⟩) (by assumption) ?r21
      case y21 => (intro w hSw; (try dsimp only at hSw); go_simp; try (with_reducible rfl))
      simp only [List.getElem_toArray, List.getElem_cons_succ, List.getElem_cons_zero, Act.put, List.setIfInBounds_toArray, List.set_cons_zero, List.set_cons_succ]
      refine wpAnyH_take (i := 13) (v := ?v22) rfl (by kernel_rfl) (by kernel_rfl) (by kernel_rfl) (fun _ _ _ h => h) (Or.inl ⟨by rfl, ?y22⟩) (by assumption) ?r22
      case y22 => (intro w hSw; (try dsimp only at hSw); go_simp; try (with_reducible rfl))
      simp only [List.getElem_toArray, List.getElem_cons_succ, List.getElem_cons_zero, Act.put, List.setIfInBounds_toArray, List.set_cons_zero, List.set_cons_succ]
      refine wpAnyH_done (by kernel_rfl) ?_ _
      obtain ⟨V, hV⟩ : ∃ V, V = w1 := ⟨_, rfl⟩
      have hbV := hHeld.2.2
      have BV : Hid (∀ wx, Below va.heap.size va wx → Below w.heap.size w wx) := hide (fun wx h => BA.out.trans (h.mono BA.out.size))
      have BH := hide hbV
      clear hHeld hbV e1 e2 hV V
      go_upto_region 14 with fail
      go_cut [162] (fun t wx => t = .bool false ∧ Below va.heap.size va wx)
      case first =>
        cases r with
        | false =>
          refine wp_region_held_drew (S := (fun wx => Below va.heap.size va wx)) (by kernel_rfl) (BH.out.drew) (fun hHeld => ?_)
          refine wpAnyH_take (i := 0) (v := ?v23) rfl (by kernel_rfl) (by kernel_rfl) (by kernel_rfl) (fun _ _ _ h => h) (Or.inl ⟨by rfl, ?y23⟩) (by assumption) ?r23
          case y23 => (intro w hSw; (try dsimp only at hSw); go_simp; try (with_reducible rfl))
          simp only [List.getElem_toArray, List.getElem_cons_zero, Act.put, List.setIfInBounds_toArray, List.set_cons_zero, List.set_cons_succ]
          refine wpAnyH_take (i := 1) (v := ?v24) rfl (by kernel_rfl) (by kernel_rfl) (by kernel_rfl) (fun _ _ _ h => h) (Or.inl ⟨by rfl, ?y24⟩) (by assumption) ?r24
          case y24 => (intro w hSw; (try dsimp only at hSw); go_simp; try (with_reducible rfl))
          simp only [List.getElem_toArray, List.getElem_cons_succ, List.getElem_cons_zero, Act.put, List.setIfInBounds_toArray, List.set_cons_zero, List.set_cons_succ]
          refine wpAnyH_take (i := 2) (v := ?v25) rfl (by kernel_rfl) (by kernel_rfl) (by kernel_rfl) (fun _ _ _ h => h) (Or.inl ⟨by rfl, ?y25⟩) (by assumption) ?r25
          case y25 => (intro w hSw; (try dsimp only at hSw); go_simp; try (with_reducible rfl))
          simp only [List.getElem_toArray, List.getElem_cons_succ, List.getElem_cons_zero, Act.put, List.setIfInBounds_toArray, List.set_cons_zero, List.set_cons_succ]
          refine wpAnyH_take (i := 3) (v := ?v26) rfl (by kernel_rfl) (by kernel_rfl) (by kernel_rfl) (fun _ _ _ h => h) (Or.inl ⟨by rfl, ?y26⟩) (by assumption) ?r26
          case y26 => (intro w hSw; (try dsimp only at hSw); go_simp; try (with_reducible rfl))
          simp only [List.getElem_toArray, List.getElem_cons_succ, List.getElem_cons_zero, Act.put, List.setIfInBounds_toArray, List.set_cons_zero, List.set_cons_succ]
          refine wpAnyH_take (i := 4) (v := ?v27) rfl (by kernel_rfl) (by kernel_rfl) (by kernel_rfl) (fun _ _ _ h => h) (Or.inl ⟨by rfl, ?y27⟩) (by assumption) ?r27
          case y27 => (intro w hSw; (try dsimp only at hSw); go_simp; try (with_reducible rfl))
          simp only [List.getElem_toArray, List.getElem_cons_succ, List.getElem_cons_zero, Act.put, List.setIfInBounds_toArray, List.set_cons_zero, List.set_cons_succ]
          refine wpAnyH_take (i := 5) (v := ?v28) rfl (by kernel_rfl) (by kernel_rfl) (by kernel_rfl) (fun _ _ _ h => h) (Or.inl ⟨by rfl, ?y28⟩) (by assumption) ?r28
          case y28 => (intro w hSw; (try dsimp only at hSw); go_simp; try (with_reducible rfl))
          simp only [List.getElem_toArray, List.getElem_cons_succ, List.getElem_cons_zero, Act.put, List.setIfInBounds_toArray, List.set_cons_zero, List.set_cons_succ]
          refine wpAnyH_take (i := 6) (v := ?v29) rfl (by kernel_rfl) (by kernel_rfl) (by kernel_rfl) (fun _ _ _ h => h) (Or.inl ⟨by rfl, ?y29⟩) (by assumption) ?r29
          case y29 => (intro w hSw; (try dsimp only at hSw); go_simp; try (with_reducible rfl))
          simp only [List.getElem_toArray, List.getElem_cons_succ, List.getElem_cons_zero, Act.put, List.setIfInBounds_toArray, List.set_cons_zero, List.set_cons_succ]
          refine wpAnyH_take (i := 7) (v := ?v30) rfl (by kernel_rfl) (by kernel_rfl) (by kernel_rfl) (fun _ _ _ h => h) (Or.inl ⟨by rfl, ?y30⟩) (by assumption) ?r30
          case y30 => (intro w hSw; (try dsimp only at hSw); go_simp; try (with_reducible rfl))
          simp only [List.getElem_toArray, List.getElem_cons_succ, List.getElem_cons_zero, Act.put, List.setIfInBounds_toArray, List.set_cons_zero, List.set_cons_succ]
          refine wpAnyH_take (i := 8) (v := ?v31) rfl (by kernel_rfl) (by kernel_rfl) (by kernel_rfl) (fun _ _ _ h => h) (Or.inl ⟨by rfl, ?y31⟩) (by assumption) ?r31
          case y31 => (intro w hSw; (try dsimp only at hSw); go_simp; try (with_reducible rfl))
          simp only [List.getElem_toArray, List.getElem_cons_succ, List.getElem_cons_zero, Act.put, List.setIfInBounds_toArray, List.set_cons_zero, List.set_cons_succ]
          refine wpAnyH_take (i := 9) (v := ?v32) rfl (by kernel_rfl) (by kernel_rfl) (by kernel_rfl) (fun _ _ _ h => h) (Or.inl ⟨by rfl, ?y32⟩) (by assumption) ?r32
          case y32 => (intro w hSw; (try dsimp only at hSw); go_simp; try (with_reducible rfl))
          simp only [List.getElem_toArray, List.getElem_cons_succ, List.getElem_cons_zero, Act.put, List.setIfInBounds_toArray, List.set_cons_zero, List.set_cons_succ]
          refine wpAnyH_take (i := 10) (v := ?v33) rfl (by kernel_rfl) (by kernel_rfl) (by kernel_rfl) (fun _ _ _ h => h) (Or.inl ⟨by rfl, ?y33⟩) (by assumption) ?r33
          case y33 => (intro w hSw; (try dsimp only at hSw); go_simp; try (with_reducible rfl))
          simp only [List.getElem_toArray, List.getElem_cons_succ, List.getElem_cons_zero, Act.put, List.setIfInBounds_toArray, List.set_cons_zero, List.set_cons_succ]
          refine wpAnyH_take (i := 11) (v := ?v34) rfl (by kernel_rfl) (by kernel_rfl) (by kernel_rfl) (fun _ _ _ h => h) (Or.inl ⟨by rfl, ?y34⟩) (by assumption) ?r34
          case y34 => (intro w hSw; (try dsimp only at hSw); go_simp; try (with_reducible rfl))
          simp only [List.getElem_toArray, List.getElem_cons_succ, List.getElem_cons_zero, Act.put, List.setIfInBounds_toArray, List.set_cons_zero, List.set_cons_succ]
          refine wpAnyH_take (i := 12) (v := ?v35) rfl (by kernel_rfl) (by kernel_rfl) (by kernel_rfl) (fun _ _ _ h => h) (Or.inl ⟨by rfl, ?y35⟩) (by assumption) ?r35
          case y35 => (intro w hSw; (try dsimp only at hSw); go_simp; try (with_reducible rfl))
          simp only [List.getElem_toArray, List.getElem_cons_succ, List.getElem_cons_zero, Act.put, List.setIfInBounds_toArray, List.set_cons_zero, List.set_cons_succ]
          refine wpAnyH_take (i := 13) (v := ?v36) rfl (by kernel_rfl) (by kernel_rfl) (by kernel_rfl) (fun _ _ _ h => h) (Or.inl ⟨by rfl, ?y36⟩) (by assumption) ?r36
          case y36 => (intro w hSw; (try dsimp only at hSw); go_simp; try (with_reducible rfl))
          simp only [List.getElem_toArray, List.getElem_cons_succ, List.getElem_cons_zero, Act.put, List.setIfInBounds_toArray, List.set_cons_zero, List.set_cons_succ]
          refine wpAnyH_take (i := 14) (v := ?v37) rfl (by kernel_rfl) (by kernel_rfl) (by kernel_rfl) (fun _ _ _ h => h) (Or.inl ⟨by rfl, ?y37⟩) (by assumption) ?r37
          case y37 => (intro w hSw; (try dsimp only at hSw); go_simp; try (with_reducible rfl))
          simp only [List.getElem_toArray, List.getElem_cons_succ, List.getElem_cons_zero, Act.put, List.setIfInBounds_toArray, List.set_cons_zero, List.set_cons_succ]
          refine wpAnyH_take (i := 15) (v := ?v38) rfl (by kernel_rfl) (by kernel_rfl) (by kernel_rfl) (fun _ _ _ h => h) (Or.inl ⟨by rfl, ?y38⟩) (by assumption) ?r38
          case y38 => (intro w hSw; (try dsimp only at hSw); go_simp; try (with_reducible rfl))
          simp only [List.getElem_toArray, List.getElem_cons_succ, List.getElem_cons_zero, Act.put, List.setIfInBounds_toArray, List.set_cons_zero, List.set_cons_succ]
          refine wpAnyH_take (i := 16) (v := ?v39) rfl (by kernel_rfl) (by kernel_rfl) (by kernel_rfl) (fun _ _ _ h => h) (Or.inl ⟨by rfl, ?y39⟩) (by assumption) ?r39
          case y39 => (intro w hSw; (try dsimp only at hSw); go_simp; try (with_reducible rfl))
          simp only [List.getElem_toArray, List.getElem_cons_succ, List.getElem_cons_zero, Act.put, List.setIfInBounds_toArray, List.set_cons_zero, List.set_cons_succ]
          refine wpAnyH_take (i := 17) (v := ?v40) rfl (by kernel_rfl) (by kernel_rfl) (by kernel_rfl) (fun _ _ _ h => h) (Or.inl ⟨by rfl, ?y40⟩) (by assumption) ?r40
          case y40 => (intro w hSw; (try dsimp only at hSw); go_simp; try (with_reducible rfl))
          simp only [List.getElem_toArray, List.getElem_cons_succ, List.getElem_cons_zero, Act.put, List.setIfInBounds_toArray, List.set_cons_zero, List.set_cons_succ]
          refine wpAnyH_take (i := 18) (v := undef) rfl (by kernel_rfl) (by kernel_rfl) (by kernel_rfl) (fun _ _ _ h => h) (Or.inr ⟨by rfl, rfl⟩) (by assumption) ?_
          simp only [List.getElem_toArray, List.getElem_cons_succ, List.getElem_cons_zero, Act.put, List.setIfInBounds_toArray, List.set_cons_zero, List.set_cons_succ]
          refine wpAnyH_take (i := 19) (v := undef) rfl (by kernel_rfl) (by kernel_rfl) (by kernel_rfl) (fun _ _ _ h => h) (Or.inr ⟨by rfl, rfl⟩) (by assumption) ?_
          simp only [List.getElem_toArray, List.getElem_cons_succ, List.getElem_cons_zero, Act.put, List.setIfInBounds_toArray, List.set_cons_zero, List.set_cons_succ]
          refine wpAnyH_take (i := 20) (v := undef) rfl (by kernel_rfl) (by kernel_rfl) (by kernel_rfl) (fun _ _ _ h => h) (Or.inr ⟨by rfl, rfl⟩) (by assumption) ?_
          simp only [List.getElem_toArray, List.getElem_cons_succ, List.getElem_cons_zero, Act.put, List.setIfInBounds_toArray, List.set_cons_zero, List.set_cons_succ]
          refine wpAnyH_take (i := 21) (v := undef) rfl (by kernel_rfl) (by kernel_rfl) (by kernel_rfl) (fun _ _ _ h => h) (Or.inr ⟨by rfl, rfl⟩) (by assumption) ?_
          simp only [List.getElem_toArray, List.getElem_cons_succ, List.getElem_cons_zero, Act.put, List.setIfInBounds_toArray, List.set_cons_zero, List.set_cons_succ]
          refine wpAnyH_take (i := 22) (v := undef) rfl (by kernel_rfl) (by kernel_rfl) (by kernel_rfl) (fun _ _ _ h => h) (Or.inr ⟨by rfl, rfl⟩) (by assumption) ?_
          simp only [List.getElem_toArray, List.getElem_cons_succ, List.getElem_cons_zero, Act.put, List.setIfInBounds_toArray, List.set_cons_zero, List.set_cons_succ]
          refine wpAnyH_take (i := 23) (v := undef) rfl (by kernel_rfl) (by kernel_rfl) (by kernel_rfl) (fun _ _ _ h => h) (Or.inr ⟨by rfl, rfl⟩) (by assumption) ?_
          simp only [List.getElem_toArray, List.getElem_cons_succ, List.getElem_cons_zero, Act.put, List.setIfInBounds_toArray, List.set_cons_zero, List.set_cons_succ]
          refine wpAnyH_take (i := 24) (v := undef) rfl (by kernel_rfl) (by kernel_rfl) (by kernel_rfl) (fun _ _ _ h => h) (Or.inr ⟨by rfl, rfl⟩) (by assumption) ?_
          simp only [List.getElem_toArray, List.getElem_cons_succ, List.getElem_cons_zero, Act.put, List.setIfInBounds_toArray, List.set_cons_zero, List.set_cons_succ]
          refine wpAnyH_take (i := 25) (v := undef) rfl (by kernel_rfl) (by kernel_rfl) (by kernel_rfl) (fun _ _ _ h => h) (Or.inr ⟨by rfl, rfl⟩) (by assumption) ?_
          simp only [List.getElem_toArray, List.getElem_cons_succ, List.getElem_cons_zero, Act.put, List.setIfInBounds_toArray, List.set_cons_zero, List.set_cons_succ]
          refine wpAnyH_take (i := 26) (v := undef) rfl (by kernel_rfl) (by kernel_rfl) (by kernel_rfl) (fun _ _ _ h => h) (Or.inr ⟨by rfl, rfl⟩) (by assumption) ?_
          simp only [List.getElem_toArray, List.getElem_cons_succ, List.getElem_cons_zero, Act.put, List.setIfInBounds_toArray, List.set_cons_zero, List.set_cons_succ]
          refine wpAnyH_take (i := 27) (v := ?v50) rfl (by kernel_rfl) (by kernel_rfl) (by kernel_rfl) (fun _ _ _ h => h) (Or.inl ⟨by rfl, ?y50⟩) (by assumption) ?r50
          case y50 => (intro w hSw; (try dsimp only at hSw); go_simp; try (with_reducible rfl))
          simp only [List.getElem_toArray, List.getElem_cons_succ, List.getElem_cons_zero, Act.put, List.setIfInBounds_toArray, List.set_cons_zero, List.set_cons_succ]
          refine wpAnyH_take (i := 28) (v := ?v51) rfl (by kernel_rfl) (by kernel_rfl) (by kernel_rfl) (fun _ _ _ h => h) (Or.inl ⟨by rfl, ?y51⟩) (by assumption) ?r51
          case y51 => (intro w hSw; (try dsimp only at hSw); go_simp; try (with_reducible rfl))
          simp only [List.getElem_toArray, List.getElem_cons_succ, List.getElem_cons_zero, Act.put, List.setIfInBounds_toArray, List.set_cons_zero, List.set_cons_succ]
          refine wpAnyH_done (by kernel_rfl) ?_ _
          go_wp2_with fail
          go_meet
          exact ⟨rfl, hHeld⟩
        | true =>
          have hanc := HRR.out.1 rfl
          have hst := hanc.stp
          obtain ⟨sb, so, hse1, hs1⟩ := (SA.out.below BH.out) X (by rw [stps_len]; exact hXk)
          subst hse1
          have hs2 := (SA.out.below BH.out).at Y (by rw [stps_len]; exact hYk)
          rw [stps_get l m X hXk] at hs1
          rw [stps_get l m Y hYk] at hs2
          obtain ⟨p, hp⟩ : ∃ p, p = stp l X := ⟨_, rfl⟩
          obtain ⟨q, hq⟩ : ∃ q, q = stp l Y := ⟨_, rfl⟩
          rw [← hp] at hs1 hst
          rw [← hq] at hs2 hst
          have hge : decide (q ≤ p) = false := by simp; omega
          have hXs : (X : Int) < (sn : Int) := by have := HSK.out; omega
          have hYs : (Y : Int) < (sn : Int) := by have := HSK.out; omega
          clear hp hq hanc hst
          refine wp_region_held_drew (S := (fun wx => wx.cell? ⟨sb, so + X, none⟩ = some (.int .i64 p) ∧ wx.cell? ⟨sb, so + Y, none⟩ = some (.int .i64 q) ∧ Below va.heap.size va wx)) (by kernel_rfl) ⟨hs1, hs2, BH.out.drew⟩ (fun hHeld => ?_)
          refine wpAnyH_take (i := 0) (v := ?v52) rfl (by kernel_rfl) (by kernel_rfl) (by kernel_rfl) (fun _ _ _ h => h) (Or.inl ⟨by rfl, ?y52⟩) (by assumption) ?r52
          case y52 => (intro w hSw; (try dsimp only at hSw); go_simp; try (with_reducible rfl))
          simp only [List.getElem_toArray, List.getElem_cons_zero, Act.put, List.setIfInBounds_toArray, List.set_cons_zero, List.set_cons_succ]
          refine wpAnyH_take (i := 1) (v := ?v53) rfl (by kernel_rfl) (by kernel_rfl) (by kernel_rfl) (fun _ _ _ h => h) (Or.inl ⟨by rfl, ?y53⟩) (by assumption) ?r53
          case y53 => (intro w hSw; (try dsimp only at hSw); go_simp; try (with_reducible rfl))
          simp only [List.getElem_toArray, List.getElem_cons_succ, List.getElem_cons_zero, Act.put, List.setIfInBounds_toArray, List.set_cons_zero, List.set_cons_succ]
          refine wpAnyH_take (i := 2) (v := ?v54) rfl (by kernel_rfl) (by kernel_rfl) (by kernel_rfl) (fun _ _ _ h => h) (Or.inl ⟨by rfl, ?y54⟩) (by assumption) ?r54
          case y54 => (intro w hSw; (try dsimp only at hSw); go_simp; try (with_reducible rfl))
          simp only [List.getElem_toArray, List.getElem_cons_succ, List.getElem_cons_zero, Act.put, List.setIfInBounds_toArray, List.set_cons_zero, List.set_cons_succ]
          refine wpAnyH_take (i := 3) (v := ?v55) rfl (by kernel_rfl) (by kernel_rfl) (by kernel_rfl) (fun _ _ _ h => h) (Or.inl ⟨by rfl, ?y55⟩) (by assumption) ?r55
          case y55 => (intro w hSw; (try dsimp only at hSw); go_simp; try (with_reducible rfl))
          simp only [List.getElem_toArray, List.getElem_cons_succ, List.getElem_cons_zero, Act.put, List.setIfInBounds_toArray, List.set_cons_zero, List.set_cons_succ]
          refine wpAnyH_take (i := 4) (v := ?v56) rfl (by kernel_rfl) (by kernel_rfl) (by kernel_rfl) (fun _ _ _ h => h) (Or.inl ⟨by rfl, ?y56⟩) (by assumption) ?r56
          case y56 => (intro w hSw; (try dsimp only at hSw); go_simp; try (with_reducible rfl))
          simp only [List.getElem_toArray, List.getElem_cons_succ, List.getElem_cons_zero, Act.put, List.setIfInBounds_toArray, List.set_cons_zero, List.set_cons_succ]
          refine wpAnyH_take (i := 5) (v := ?v57) rfl (by kernel_rfl) (by kernel_rfl) (by kernel_rfl) (fun _ _ _ h => h) (Or.inl ⟨by rfl, ?y57⟩) (by assumption) ?r57
          case y57 => (intro w hSw; (try dsimp only at hSw); go_simp; try (with_reducible rfl))
          simp only [List.getElem_toArray, List.getElem_cons_succ, List.getElem_cons_zero, Act.put, List.setIfInBounds_toArray, List.set_cons_zero, List.set_cons_succ]
          refine wpAnyH_take (i := 6) (v := ?v58) rfl (by kernel_rfl) (by kernel_rfl) (by kernel_rfl) (fun _ _ _ h => h) (Or.inl ⟨by rfl, ?y58⟩) (by assumption) ?r58
          case y58 => (intro w hSw; (try dsimp only at hSw); go_simp; try (with_reducible rfl))
          simp only [List.getElem_toArray, List.getElem_cons_succ, List.getElem_cons_zero, Act.put, List.setIfInBounds_toArray, List.set_cons_zero, List.set_cons_succ]
          refine wpAnyH_take (i := 7) (v := ?v59) rfl (by kernel_rfl) (by kernel_rfl) (by kernel_rfl) (fun _ _ _ h => h) (Or.inl ⟨by rfl, ?y59⟩) (by assumption) ?r59
          case y59 => (intro w hSw; (try dsimp only at hSw); go_simp; try (with_reducible rfl))
          simp only [List.getElem_toArray, List.getElem_cons_succ, List.getElem_cons_zero, Act.put, List.setIfInBounds_toArray, List.set_cons_zero, List.set_cons_succ]
          refine wpAnyH_take (i := 8) (v := ?v60) rfl (by kernel_rfl) (by kernel_rfl) (by kernel_rfl) (fun _ _ _ h => h) (Or.inl ⟨by rfl, ?y60⟩) (by assumption) ?r60
          case y60 => (intro w hSw; (try dsimp only at hSw); go_simp; try (with_reducible rfl))
          simp only [List.getElem_toArray, List.getElem_cons_succ, List.getElem_cons_zero, Act.put, List.setIfInBounds_toArray, List.set_cons_zero, List.set_cons_succ]
          refine wpAnyH_take (i := 9) (v := ?v61) rfl (by kernel_rfl) (by kernel_rfl) (by kernel_rfl) (fun _ _ _ h => h) (Or.inl ⟨by rfl, ?y61⟩) (by assumption) ?r61
          case y61 => (intro w hSw; (try dsimp only at hSw); go_simp; try (with_reducible rfl))
          simp only [List.getElem_toArray, List.getElem_cons_succ, List.getElem_cons_zero, Act.put, List.setIfInBounds_toArray, List.set_cons_zero, List.set_cons_succ]
          refine wpAnyH_take (i := 10) (v := ?v62) rfl (by kernel_rfl) (by kernel_rfl) (by kernel_rfl) (fun _ _ _ h => h) (Or.inl ⟨by rfl, ?y62⟩) (by assumption) ?r62
          case y62 => (intro w hSw; (try dsimp only at hSw); go_simp; try (with_reducible rfl))
          simp only [List.getElem_toArray, List.getElem_cons_succ, List.getElem_cons_zero, Act.put, List.setIfInBounds_toArray, List.set_cons_zero, List.set_cons_succ]
          refine wpAnyH_take (i := 11) (v := ?v63) rfl (by kernel_rfl) (by kernel_rfl) (by kernel_rfl) (fun _ _ _ h => h) (Or.inl ⟨by rfl, ?y63⟩) (by assumption) ?r63
          case y63 => (intro w hSw; (try dsimp only at hSw); go_simp; try (with_reducible rfl))
          simp only [List.getElem_toArray, List.getElem_cons_succ, List.getElem_cons_zero, Act.put, List.setIfInBounds_toArray, List.set_cons_zero, List.set_cons_succ]
          refine wpAnyH_take (i := 12) (v := ?v64) rfl (by kernel_rfl) (by kernel_rfl) (by kernel_rfl) (fun _ _ _ h => h) (Or.inl ⟨by rfl, ?y64⟩) (by assumption) ?r64
          case y64 => (intro w hSw; (try dsimp only at hSw); go_simp; try (with_reducible rfl))
          simp only [List.getElem_toArray, List.getElem_cons_succ, List.getElem_cons_zero, Act.put, List.setIfInBounds_toArray, List.set_cons_zero, List.set_cons_succ]
          refine wpAnyH_take (i := 13) (v := ?v65) rfl (by kernel_rfl) (by kernel_rfl) (by kernel_rfl) (fun _ _ _ h => h) (Or.inl ⟨by rfl, ?y65⟩) (by assumption) ?r65
          case y65 => (intro w hSw; (try dsimp only at hSw); go_simp; try (with_reducible rfl))
          simp only [List.getElem_toArray, List.getElem_cons_succ, List.getElem_cons_zero, Act.put, List.setIfInBounds_toArray, List.set_cons_zero, List.set_cons_succ]
          refine wpAnyH_take (i := 14) (v := ?v66) rfl (by kernel_rfl) (by kernel_rfl) (by kernel_rfl) (fun _ _ _ h => h) (Or.inl ⟨by rfl, ?y66⟩) (by assumption) ?r66
          case y66 => (intro w hSw; (try dsimp only at hSw); go_simp; try (with_reducible rfl))
          simp only [List.getElem_toArray, List.getElem_cons_succ, List.getElem_cons_zero, Act.put, List.setIfInBounds_toArray, List.set_cons_zero, List.set_cons_succ]
          refine wpAnyH_take (i := 15) (v := ?v67) rfl (by kernel_rfl) (by kernel_rfl) (by kernel_rfl) (fun _ _ _ h => h) (Or.inl ⟨by rfl, ?y67⟩) (by assumption) ?r67
          case y67 => (intro w hSw; (try dsimp only at hSw); go_simp; try (with_reducible rfl))
          simp only [List.getElem_toArray, List.getElem_cons_succ, List.getElem_cons_zero, Act.put, List.setIfInBounds_toArray, List.set_cons_zero, List.set_cons_succ]
          refine wpAnyH_take (i := 16) (v := ?v68) rfl (by kernel_rfl) (by kernel_rfl) (by kernel_rfl) (fun _ _ _ h => h) (Or.inl ⟨by rfl, ?y68⟩) (by assumption) ?r68
          case y68 => (intro w hSw; (try dsimp only at hSw); go_simp; try (with_reducible rfl))
          simp only [List.getElem_toArray, List.getElem_cons_succ, List.getElem_cons_zero, Act.put, List.setIfInBounds_toArray, List.set_cons_zero, List.set_cons_succ]
          refine wpAnyH_take (i := 17) (v := ?v69) rfl (by kernel_rfl) (by kernel_rfl) (by kernel_rfl) (fun _ _ _ h => h) (Or.inl ⟨by rfl, ?y69⟩) (by assumption) ?r69
          case y69 => (intro w hSw; (try dsimp only at hSw); go_simp; try (with_reducible rfl))
          simp only [List.getElem_toArray, List.getElem_cons_succ, List.getElem_cons_zero, Act.put, List.setIfInBounds_toArray, List.set_cons_zero, List.set_cons_succ]
          refine wpAnyH_take (i := 18) (v := ?v70) rfl (by kernel_rfl) (by kernel_rfl) (by kernel_rfl) (fun _ _ _ h => h) (Or.inl ⟨by rfl, ?y70⟩) (by assumption) ?r70
          case y70 => (intro w hSw; (try dsimp only at hSw); go_simp; try (with_reducible rfl))
          simp only [List.getElem_toArray, List.getElem_cons_succ, List.getElem_cons_zero, Act.put, List.setIfInBounds_toArray, List.set_cons_zero, List.set_cons_succ]
          refine wpAnyH_take (i := 19) (v := ?v71) rfl (by kernel_rfl) (by kernel_rfl) (by kernel_rfl) (fun _ _ _ h => h) (Or.inl ⟨by rfl, ?y71⟩) (by assumption) ?r71
          case y71 => (intro w hSw; (try dsimp only at hSw); go_simp; try (with_reducible rfl))
          simp only [List.getElem_toArray, List.getElem_cons_succ, List.getElem_cons_zero, Act.put, List.setIfInBounds_toArray, List.set_cons_zero, List.set_cons_succ]
          refine wpAnyH_take (i := 20) (v := ?v72) rfl (by kernel_rfl) (by kernel_rfl) (by kernel_rfl) (fun _ _ _ h => h) (Or.inl ⟨by rfl, ?y72⟩) (by assumption) ?r72
          case y72 => (intro w hSw; (try dsimp only at hSw); go_simp; try (with_reducible rfl))
          simp only [List.getElem_toArray, List.getElem_cons_succ, List.getElem_cons_zero, Act.put, List.setIfInBounds_toArray, List.set_cons_zero, List.set_cons_succ]
          refine wpAnyH_take (i := 21) (v := ?v73) rfl (by kernel_rfl) (by kernel_rfl) (by kernel_rfl) (fun _ _ _ h => h) (Or.inl ⟨by rfl, ?y73⟩) (by assumption) ?r73
          case y73 => (intro w hSw; (try dsimp only at hSw); go_simp; try (with_reducible rfl))
          simp only [List.getElem_toArray, List.getElem_cons_succ, List.getElem_cons_zero, Act.put, List.setIfInBounds_toArray, List.set_cons_zero, List.set_cons_succ]
          refine wpAnyH_take (i := 22) (v := ?v74) rfl (by kernel_rfl) (by kernel_rfl) (by kernel_rfl) (fun _ _ _ h => h) (Or.inl ⟨by rfl, ?y74⟩) (by assumption) ?r74
          case y74 => (intro w hSw; (try dsimp only at hSw); go_simp; try (with_reducible rfl))
          simp only [List.getElem_toArray, List.getElem_cons_succ, List.getElem_cons_zero, Act.put, List.setIfInBounds_toArray, List.set_cons_zero, List.set_cons_succ]
          refine wpAnyH_take (i := 23) (v := ?v75) rfl (by kernel_rfl) (by kernel_rfl) (by kernel_rfl) (fun _ _ _ h => h) (Or.inl ⟨by rfl, ?y75⟩) (by assumption) ?r75
          case y75 => (intro w hSw; (try dsimp only at hSw); go_simp; try (with_reducible rfl))
          simp only [List.getElem_toArray, List.getElem_cons_succ, List.getElem_cons_zero, Act.put, List.setIfInBounds_toArray, List.set_cons_zero, List.set_cons_succ]
          refine wpAnyH_take (i := 24) (v := ?v76) rfl (by kernel_rfl) (by kernel_rfl) (by kernel_rfl) (fun _ _ _ h => h) (Or.inl ⟨by rfl, ?y76⟩) (by assumption) ?r76
          case y76 => (intro w hSw; (try dsimp only at hSw); go_simp; try (with_reducible rfl))
          simp only [List.getElem_toArray, List.getElem_cons_succ, List.getElem_cons_zero, Act.put, List.setIfInBounds_toArray, List.set_cons_zero, List.set_cons_succ]
          refine wpAnyH_take (i := 25) (v := ?v77) rfl (by kernel_rfl) (by kernel_rfl) (by kernel_rfl) (fun _ _ _ h => h) (Or.inl ⟨by rfl, ?y77⟩) (by assumption) ?r77
          case y77 => (intro w hSw; (try dsimp only at hSw); go_simp; try (with_reducible rfl))
          simp only [List.getElem_toArray, List.getElem_cons_succ, List.getElem_cons_zero, Act.put, List.setIfInBounds_toArray, List.set_cons_zero, List.set_cons_succ]
          refine wpAnyH_take (i := 26) (v := ?v78) rfl (by kernel_rfl) (by kernel_rfl) (by kernel_rfl) (fun _ _ _ h => h) (Or.inl ⟨by rfl, ?y78⟩) (by assumption) ?r78
          case y78 => (intro w hSw; (try dsimp only at hSw); go_simp; try (with_reducible rfl))
          simp only [List.getElem_toArray, List.getElem_cons_succ, List.getElem_cons_zero, Act.put, List.setIfInBounds_toArray, List.set_cons_zero, List.set_cons_succ]
          refine wpAnyH_take (i := 27) (v := ?v79) rfl (by kernel_rfl) (by kernel_rfl) (by kernel_rfl) (fun _ _ _ h => h) (Or.inl ⟨by rfl, ?y79⟩) (by assumption) ?r79
          case y79 => (intro w hSw; (try dsimp only at hSw); go_simp; try (with_reducible rfl))
          simp only [List.getElem_toArray, List.getElem_cons_succ, List.getElem_cons_zero, Act.put, List.setIfInBounds_toArray, List.set_cons_zero, List.set_cons_succ]
          refine wpAnyH_take (i := 28) (v := ?v80) rfl (by kernel_rfl) (by kernel_rfl) (by kernel_rfl) (fun _ _ _ h => h) (Or.inl ⟨by rfl, ?y80⟩) (by assumption) ?r80
          case y80 => (intro w hSw; (try dsimp only at hSw); go_simp; try (with_reducible rfl))
          simp only [List.getElem_toArray, List.getElem_cons_succ, List.getElem_cons_zero, Act.put, List.setIfInBounds_toArray, List.set_cons_zero, List.set_cons_succ]
          refine wpAnyH_done (by kernel_rfl) ?_ _
          go_wp2_with fail
          go_meet
          exact ⟨rfl, hHeld.2.2⟩
      case rest =>
        obtain ⟨rfl, hbc⟩ := hcut
        have BC := hide hbc
        clear hbc
        go_wp2_with fail
        refine (unhide CH _ (LA.out.below BC.out)).mono ?_
        rintro e vb ⟨rfl, hb⟩
        have BD := hide (BV.out _ (BC.out.trans (hb.mono BC.out.size)))
        clear hb
        cases r with
        | false =>
          go_wp2_with fail
          go_meet
          exact BD.out
        | true =>
          have hno : r2 = false := by
            cases r2 with
            | false => rfl
            | true =>
              have h1 := (HRR.out.1 rfl).lt
              have h2 := (HRR2.out.1 rfl).lt
              omega
          subst hno
          go_wp2_with fail
          go_meet
          exact BD.out
  case rest =>
    have B0 := hide hcut
    clear hcut HOK HSN HLL BA LA RA SA CH
    go_wp2_with fail
    refine (drawLess_any a1 len1 cap1 _ (Slb.below S1.out B0.out) hl1).mono ?_
    rintro e x1 ⟨ka, kb, u1, u2, rfl, hka, hkb, ho1, ho2, hb⟩
    obtain ⟨xs, hxl, hox⟩ := ho1
    obtain ⟨ys, hyl, hoy⟩ := ho2
    obtain ⟨xa, xc, rfl, hxs, _⟩ := own_form hox
    obtain ⟨ya, yc, rfl, hys, _⟩ := own_form hoy
    obtain ⟨d, hd⟩ : ∃ d : Bool, d = true ↔ TwoC xs ys := ⟨decide (TwoC xs ys), by simp⟩
    obtain ⟨t, ht⟩ : ∃ t : Bool, t = true ↔ TwoC xs ys ∧ LsC xs ys := ⟨decide (TwoC xs ys ∧ LsC xs ys), by simp⟩
    have CA := hide (fun wx h1 h2 => lessClock_any xa ya xs ys ka kb xc yc wx hxl hyl h1 h2 (by omega) (by omega) d t hd ht)
    have CB := hide (fun wx h1 h2 => specLess_any xa ya xs ys ka kb xc yc wx hxl hyl h1 h2 (by omega) (by omega) d t hd ht)
    have X1 := hide hxs
    have Y1 := hide hys
    have C1 := hide (B0.out.trans (hb.mono B0.out.size))
    clear hb hox hoy hxs hys hd ht B0 hxl hyl
    go_wp2_with fail
    refine (unhide CA _ X1.out Y1.out).mono ?_
    rintro e x2 ⟨rfl, hb⟩
    have X2 := hide (X1.out.below hb)
    have Y2 := hide (Y1.out.below hb)
    have C2 := hide (C1.out.trans (hb.mono C1.out.size))
    clear hb X1 Y1 C1
    go_wp2_with fail
    refine (unhide CB _ X2.out Y2.out).mono ?_
    rintro e x3 ⟨rfl, hb⟩
    have C3 := hide (C2.out.trans (hb.mono C2.out.size))
    clear hb X2 Y2 C2
    cases d <;> cases t <;> (go_wp2; go_ret; exact ⟨rfl, C3.out⟩)
end Go.Proofs.Ytkfnejiiancmhad.fnClocks
