/-
  Contract: slices.insertionSortCmpFunc of ints: a stretch comes in order, alike ones as they were.
  Contracts: cmp.Compare of ints; the comparison by which impl.greatestFirst orders places.
  Contract: slices.symMergeCmpFunc of ints where one alone stands ahead.
  Contract: slices.symMergeCmpFunc of ints where one alone stands behind.
  Contract: slices.symMergeCmpFunc of ints: two stretches are parted and merged by halves.
  Contract: slices.symMergeCmpFunc of ints: two stretches are parted and merged by halves.
  Contract: slices.symMergeCmpFunc of ints: two stretches in order become one, alike ones as they were.
  Blocks of a row that are in order each, and come from earlier and later places. Nothing of the program's text is proved here.
-/
import Derived.Test.YtohcjafklfemfamBundle1
import Derived.Deep.DeepCutAuto
import Derived.Test.YtohcjafklfemfamBundle2
namespace Go.Proofs.Ytohcjafklfemfam.SrtI
open Go.RowKit L1 Srt
set_option linter.unusedVariables false

theorem exch_comm (i j t : Nat) : exch i j 1 t = exch j i 1 t := by
  unfold exch
  repeat' split
  all_goals omega
theorem blk_ltS {w : World} {p : Addr} {v : Value} (h : w.cell? p = some v) : p.block < w.heap.size := by
  by_cases hb : p.block < w.heap.size
  · exact hb
  · simp [World.cell?, Array.getElem?_eq_none (show w.heap.size ≤ p.block by omega)] at h
theorem keep2s {wa wb W : World} {p0 p1 : Addr} {v0 v1 : Value} (h : (wa.cell? p0 = some v0 ∧ wa.cell? p1 = some v1) ∧ Below W.heap.size W wa) (hb : Below wa.heap.size wa wb) : (wb.cell? p0 = some v0 ∧ wb.cell? p1 = some v1) ∧ Below W.heap.size W wb :=
  ⟨⟨(hb.cell (blk_ltS h.1.1)).trans h.1.1, (hb.cell (blk_ltS h.1.2)).trans h.1.2⟩, h.2.trans (hb.mono h.2.size)⟩
theorem rot_at (j i : Nat) (h : j ≤ i) : rot j i (i + 1) j = i := by
  unfold rot
  repeat' split
  all_goals omega
theorem rot_ahead (j i t : Nat) (h : t < j) : rot j i (i + 1) t = t := by
  unfold rot
  repeat' split
  all_goals omega
theorem po_all {a b n : Nat} {L L' : Nat → Int} {S : Int → Prop} (h : PO a b L L') (hb : b ≤ n) (hS : ∀ t, t < n → S (L t)) : ∀ t, t < n → S (L' t) := fun t ht => by
  by_cases e : a ≤ t ∧ t < b
  · obtain ⟨u, hu, eu⟩ := h.src t e
    rw [eu]; exact hS u (by omega)
  · rw [h.out t e]; exact hS t ht
/-- A row that stays, in a world of its own name. -/
theorem RI.keep {w0 w w' : World} {base g cap n : Nat} {L : List Int} (h : RI w0 w base g cap n L) (hb : Below w.heap.size w w') : RI w0 w' base g cap n L := h.below hb
set_option maxRecDepth 100000 in
set_option maxHeartbeats 4000000 in
theorem insertion_any (w0 : World) (base g cap n : Nat) (pp : Addr) (lt : Int → Int → Prop) (tag : Int → Nat) (S : Int → Prop) (O : Ord lt tag) (hn : n ≤ 1048576) (hC : ∀ wx x y, Below g w0 wx → S x → S y → tag x < tag y → Calls Try.prog 73 #[.int .i64 y, .int .i64 x, .pointer (some pp)] wx fun e w' => ∃ c : Int, e = .returned (.int .i64 c) ∧ (c < 0 ↔ lt y x) ∧ Below wx.heap.size wx w') (w : World) (L : List Int) (a b : Nat) (hab : a ≤ b) (hb : b ≤ n) (hR : RI w0 w base g cap n L) (hS : ∀ t, t < n → S (gi L t)) (hT : ∀ i j, a ≤ i → i < j → j < b → tag (gi L i) < tag (gi L j)) :
    Calls Try.prog 96 #[.slice (some ⟨g, 0, none⟩) n cap, .int .i64 a, .int .i64 b, (.func (.func 73) #[] #[.pointer (some pp)])] w fun e w' => e = .returned (.tuple #[]) ∧ ∃ L', RI w0 w' base g cap n L' ∧ PO a b (gi L) (gi L') ∧ So lt (gi L') a b := by
  have HC := hide hC
  have HR := hide hR
  have HSS := hide hS
  have HT := hide hT
  clear hC hR hS hT
  have hwa : IntKind.i64.wrap ((a : Int) + 1) = ((a + 1 : Nat) : Int) := by rw [wrapN _ (by omega) (by omega)]; omega
  go_enter Try.func96, Try.ntmps96
  go_wp2
  go_loopw [8] (fun iv wr => ∃ (i : Nat) (L1 : List Int), iv = .int .i64 i ∧ a < i ∧ (i ≤ b ∨ i = a + 1) ∧ RI w0 wr base g cap n L1 ∧ Hid (PO a b (gi L) (gi L1) ∧ PO a i (gi L) (gi L1) ∧ So lt (gi L1) a i)) (fun iv _ => b - (intOf iv).toNat)
  case atStart => exact ⟨a + 1, L, by first | rfl | go_num, by omega, .inr rfl, HR.out, PO.refl _ _ _, PO.refl _ _ _, fun i j h1 h2 h3 => by omega⟩
  case round =>
    obtain ⟨i, L1, rfl, hai, hib, hI, HP⟩ := hrel
    by_cases hlt : i < b
    · have hltI : (i : Int) < (b : Int) := by omega
      go_wp2
      go_loopw [9] (fun jv wr => ∃ (j : Nat) (L2 : List Int), jv = .int .i64 j ∧ a ≤ j ∧ j ≤ i ∧ RI w0 wr base g cap n L2 ∧ Hid ((∀ t, gi L2 t = gi L1 (rot j i (i + 1) t)) ∧ ∀ h, j ≤ h → h < i → lt (gi L1 i) (gi L1 h))) (fun jv _ => (intOf jv).toNat)
      case atStart => exact ⟨i, L1, rfl, by omega, Nat.le_refl _, hI, fun t => by rw [rot_none _ _ _ _ (by omega) (by omega) (.inl rfl)], fun h h1 h2 => by omega⟩
      case round =>
        rename_i wo _ _
        obtain ⟨j, L2, rfl, haj, hji, hI2, HX⟩ := hrel
        have HI := hide hI2
        clear hI2
        have OUT : (a < j → ¬ lt (gi L1 i) (gi L1 (j - 1))) → Hid (PO a b (gi L) (gi L2) ∧ PO a (i + 1) (gi L) (gi L2) ∧ So lt (gi L2) a (i + 1)) := fun hs => by
          have qP : PO j (i + 1) (gi L1) (gi L2) := PO.rot (by omega) (by omega) HX.out.1
          refine ⟨HP.out.1.trans (qP.wide haj (by omega)), (HP.out.2.1.wide (Nat.le_refl _) (by omega)).trans (qP.wide haj (Nat.le_refl _)), so_down O HP.out.2.2 ?_ haj hji ?_ HX.out.2 HX.out.1⟩
          · intro p q hp hpi hq1 hq2
            obtain rfl : q = i := by omega
            obtain ⟨u, hu, eu⟩ := HP.out.2.1.src p ⟨hp, hpi⟩
            rw [eu, HP.out.2.1.out q (by omega)]
            exact HT.out u q hu.1 hu.2 hlt
          · intro h h1 h2 h3
            have hj : a < j := by omega
            refine hs hj ?_
            by_cases e : h = j - 1
            · rw [← e]; exact h3
            · exact O.trans _ _ _ h3 (HP.out.2.2 h (j - 1) h1 (by omega) (by omega))
        have HOUT := hide OUT
        clear OUT
        by_cases hja : a < j
        · have hjaI : (a : Int) < (j : Int) := by omega
          obtain ⟨jp, hjp⟩ : ∃ jp, jp = j - 1 := ⟨_, rfl⟩
          have hw1 : IntKind.i64.wrap ((j : Int) - 1) = (jp : Int) := by rw [wrapN _ (by omega) (by omega)]; omega
          have hjI : (j : Int) < (n : Int) := by omega
          have hj0 : (0 : Int) ≤ (j : Int) := by omega
          have hpI : (jp : Int) < (n : Int) := by omega
          have hp0 : (0 : Int) ≤ (jp : Int) := by omega
          have ex : gi L2 j = gi L1 i := by rw [HX.out.1, rot_at j i hji]
          have ey : gi L2 jp = gi L1 (j - 1) := by rw [HX.out.1, rot_ahead j i jp (by omega), hjp]
          have htg : tag (gi L2 jp) < tag (gi L2 j) := by
            rw [ex, ey]
            obtain ⟨u, hu, eu⟩ := HP.out.2.1.src (j - 1) (by omega)
            rw [eu, HP.out.2.1.out i (by omega)]
            exact HT.out u i hu.1 hu.2 hlt
          have hall := po_all (HP.out.1.trans ((PO.rot (by omega) (by omega) HX.out.1 : PO j (i + 1) (gi L1) (gi L2)).wide haj (by omega))) hb HSS.out
          have CC := hide (fun wx (hb : Below wr.heap.size wr wx) => HC.out wx (gi L2 jp) (gi L2 j) (HI.out.bel.trans (hb.mono (Nat.le_of_lt HI.out.lt))) (hall jp (by omega)) (hall j (by omega)) htg)
          rw [ex, ey] at CC
          have k1 := HI.out.cell j (by omega)
          have k2 := HI.out.cell jp (by omega)
          rw [ex] at k1
          rw [ey] at k2
          have HJP := hide hjp
          obtain ⟨x, hx⟩ : ∃ x, x = gi L1 i := ⟨_, rfl⟩
          obtain ⟨y, hy⟩ : ∃ y, y = gi L1 (j - 1) := ⟨_, rfl⟩
          rw [← hx, ← hy] at CC
          rw [← hx] at k1
          rw [← hy] at k2
          have HXY : Hid (x = gi L1 i ∧ y = gi L1 (j - 1)) := ⟨hx, hy⟩
          clear hx hy ex ey htg hall hjp
          by_cases hl : lt x y
          · have HL := hide hl
            clear hl
            go_wp2
            refine wp_region_held_drew (S := fun wx => (wx.cell? ⟨g, j, none⟩ = some (.int .i64 x) ∧ wx.cell? ⟨g, jp, none⟩ = some (.int .i64 y)) ∧ Below wr.heap.size wr wx) (by kernel_rfl) ⟨⟨k1, k2⟩, (Below.refl _ _).drew⟩ (fun hHeld => ?_)
            refine wpAnyH_take (i := 0) (v := ?v1) rfl (by kernel_rfl) (by kernel_rfl) (by kernel_rfl) (fun _ _ _ h => h) (Or.inl ⟨by rfl, ?y1⟩) (by assumption) ?r1
            case y1 => (intro w hSw; (try dsimp only at hSw); go_simp; try (with_reducible rfl))
            simp only [List.getElem_toArray, List.getElem_cons_zero, Act.put, List.setIfInBounds_toArray, List.set_cons_zero, List.set_cons_succ]
            refine wpAnyH_take (i := 1) (v := ?v2) rfl (by kernel_rfl) (by kernel_rfl) (by kernel_rfl) (fun _ _ _ h => h) (Or.inl ⟨by rfl, ?y2⟩) (by assumption) ?r2
            case y2 => (intro w hSw; (try dsimp only at hSw); go_simp; try (with_reducible rfl))
            simp only [List.getElem_toArray, List.getElem_cons_succ, List.getElem_cons_zero, Act.put, List.setIfInBounds_toArray, List.set_cons_zero, List.set_cons_succ]
            refine wpAnyH_take (i := 2) (v := ?v3) rfl (by kernel_rfl) (by kernel_rfl) (by kernel_rfl) (fun _ _ _ h => h) (Or.inl ⟨by rfl, ?y3⟩) (by assumption) ?r3
            case y3 => (intro w hSw; (try dsimp only at hSw); go_simp; try (with_reducible rfl))
            simp only [List.getElem_toArray, List.getElem_cons_succ, List.getElem_cons_zero, Act.put, List.setIfInBounds_toArray, List.set_cons_zero, List.set_cons_succ]
            refine wpAnyH_take (i := 3) (v := ?v4) rfl (by kernel_rfl) (by kernel_rfl) (by kernel_rfl) (fun _ _ _ h => h) (Or.inl ⟨by rfl, ?y4⟩) (by assumption) ?r4
            case y4 => (intro w hSw; (try dsimp only at hSw); go_simp; try (with_reducible rfl))
            simp only [List.getElem_toArray, List.getElem_cons_succ, List.getElem_cons_zero, Act.put, List.setIfInBounds_toArray, List.set_cons_zero, List.set_cons_succ]
            refine wpAnyH_take (i := 4) (v := ?v5) rfl (by kernel_rfl) (by kernel_rfl) (by kernel_rfl) (fun _ _ _ h => h) (Or.inl ⟨by rfl, ?y5⟩) (by assumption) ?r5
            case y5 => (intro w hSw; (try dsimp only at hSw); go_simp; try (with_reducible rfl))
            simp only [List.getElem_toArray, List.getElem_cons_succ, List.getElem_cons_zero, Act.put, List.setIfInBounds_toArray, List.set_cons_zero, List.set_cons_succ]
            refine wpAnyH_take (i := 5) (v := ?v6) rfl (by kernel_rfl) (by kernel_rfl) (by kernel_rfl) (fun _ _ _ h => h) (Or.inl ⟨by rfl, ?y6⟩) (by assumption) ?r6
            case y6 => (intro w hSw; (try dsimp only at hSw); go_simp; try (with_reducible rfl))
            simp only [List.getElem_toArray, List.getElem_cons_succ, List.getElem_cons_zero, Act.put, List.setIfInBounds_toArray, List.set_cons_zero, List.set_cons_succ]
            refine wpAnyH_take (i := 6) (v := ?v7) rfl (by kernel_rfl) (by kernel_rfl) (by kernel_rfl) (fun _ _ _ h => h) (Or.inl ⟨by rfl, ?y7⟩) (by assumption) ?r7
            case y7 => (intro w hSw; (try dsimp only at hSw); go_simp; try (with_reducible rfl))
            simp only [List.getElem_toArray, List.getElem_cons_succ, List.getElem_cons_zero, Act.put, List.setIfInBounds_toArray, List.set_cons_zero, List.set_cons_succ]
            refine wpAnyH_take (i := 7) (v := ?v8) rfl (by kernel_rfl) (by kernel_rfl) (by kernel_rfl) (fun _ _ _ h => h) (Or.inl ⟨by rfl, ?y8⟩) (by assumption) ?r8
            case y8 => (intro w hSw; (try dsimp only at hSw); go_simp; try (with_reducible rfl))
            simp only [List.getElem_toArray, List.getElem_cons_succ, List.getElem_cons_zero, Act.put, List.setIfInBounds_toArray, List.set_cons_zero, List.set_cons_succ]
            refine wpAnyH_take (i := 8) (v := ?v9) rfl (by kernel_rfl) (by kernel_rfl) (by kernel_rfl) (fun _ _ _ h => h) (Or.inl ⟨by rfl, ?y9⟩) (by assumption) ?r9
            case y9 => (intro w hSw; (try dsimp only at hSw); go_simp; try (with_reducible rfl))
            simp only [List.getElem_toArray, List.getElem_cons_succ, List.getElem_cons_zero, Act.put, List.setIfInBounds_toArray, List.set_cons_zero, List.set_cons_succ]
            refine wpAnyH_take (i := 9) (v := ?v10) rfl (by kernel_rfl) (by kernel_rfl) (by kernel_rfl) (fun _ _ _ h => h) (Or.inl ⟨by rfl, ?y10⟩) (by assumption) ?r10
            case y10 => (intro w hSw; (try dsimp only at hSw); go_simp; try (with_reducible rfl))
            simp only [List.getElem_toArray, List.getElem_cons_succ, List.getElem_cons_zero, Act.put, List.setIfInBounds_toArray, List.set_cons_zero, List.set_cons_succ]
            refine wpAnyH_take (i := 10) (v := ?v11) rfl (by kernel_rfl) (by kernel_rfl) (by kernel_rfl) (fun _ _ _ h => h) (Or.inl ⟨by rfl, ?y11⟩) (by assumption) ?r11
            case y11 => (intro w hSw; (try dsimp only at hSw); go_simp; try (with_reducible rfl))
            simp only [List.getElem_toArray, List.getElem_cons_succ, List.getElem_cons_zero, Act.put, List.setIfInBounds_toArray, List.set_cons_zero, List.set_cons_succ]
            refine wpAnyH_take (i := 11) (v := ?v12) rfl (by kernel_rfl) (by kernel_rfl) (by kernel_rfl) (fun _ _ _ h => h) (Or.inl ⟨by rfl, ?y12⟩) (by assumption) ?r12
            case y12 => (intro w hSw; (try dsimp only at hSw); go_simp; try (with_reducible rfl))
            simp only [List.getElem_toArray, List.getElem_cons_succ, List.getElem_cons_zero, Act.put, List.setIfInBounds_toArray, List.set_cons_zero, List.set_cons_succ]
            refine wpAnyH_take (i := 12) (v := ?v13) rfl (by kernel_rfl) (by kernel_rfl) (by kernel_rfl) (fun _ _ _ h => h) (Or.inl ⟨by rfl, ?y13⟩) (by assumption) ?r13
            case y13 => (intro w hSw; (try dsimp only at hSw); go_simp; try (with_reducible rfl))
            simp only [List.getElem_toArray, List.getElem_cons_succ, List.getElem_cons_zero, Act.put, List.setIfInBounds_toArray, List.set_cons_zero, List.set_cons_succ]
            refine wpAnyH_take (i := 13) (v := ?v14) rfl (by kernel_rfl) (by kernel_rfl) (by kernel_rfl) (fun _ _ _ h => h) (Or.inl ⟨by rfl, ?y14⟩) (by assumption) ?r14
            case y14 => (intro w hSw; (try dsimp only at hSw); go_simp; try (with_reducible rfl))
            simp only [List.getElem_toArray, List.getElem_cons_succ, List.getElem_cons_zero, Act.put, List.setIfInBounds_toArray, List.set_cons_zero, List.set_cons_succ]
            refine wpAnyH_ready (rs := [14]) (by kernel_rfl) (by simp) ?_
            refine AllReadyH.cons rfl (fun K hK => ?_) AllReadyH.nil
            simp only [List.getElem_toArray, List.getElem_cons_succ, List.getElem_cons_zero]
            go_simp
            go_at_call 73
            refine (CC.out _ hHeld.2).mono ?_
            rintro e w3 ⟨c, rfl, hc, hb⟩
            have hcn : c < 0 := hc.2 HL.out
            dsimp only
            refine hK.out _ _ ?_ (fun hHeld => ?_)
            · exact keep2s (by assumption) hb
            clear hK K
            try simp only [Act.put, List.setIfInBounds_toArray, List.set_cons_zero, List.set_cons_succ]
            refine wpAnyH_take (i := 15) (v := ?v15) rfl (by kernel_rfl) (by kernel_rfl) (by kernel_rfl) (fun _ _ _ h => h) (Or.inl ⟨by rfl, ?y15⟩) (by assumption) ?r15
            case y15 => (intro w hSw; (try dsimp only at hSw); go_simp; try (with_reducible rfl))
            simp only [List.getElem_toArray, List.getElem_cons_succ, List.getElem_cons_zero, Act.put, List.setIfInBounds_toArray, List.set_cons_zero, List.set_cons_succ]
            refine wpAnyH_take (i := 16) (v := ?v16) rfl (by kernel_rfl) (by kernel_rfl) (by kernel_rfl) (fun _ _ _ h => h) (Or.inl ⟨by rfl, ?y16⟩) (by assumption) ?r16
            case y16 => (intro w hSw; (try dsimp only at hSw); go_simp; try (with_reducible rfl))
            simp only [List.getElem_toArray, List.getElem_cons_succ, List.getElem_cons_zero, Act.put, List.setIfInBounds_toArray, List.set_cons_zero, List.set_cons_succ]
            refine wpAnyH_done (by kernel_rfl) ?_ _
            have hb0 := hHeld.2
            have HI3 := hide (HI.out.below hb0)
            have HWO : Hid (RI w0 wr base g cap n L2) := HI
            clear hHeld k1 k2 hc CC HI HWO
            have hj1 : jp + 1 = j := by have := HJP.out; omega
            obtain ⟨wz, hwz⟩ : ∃ q, q = w3 := ⟨_, rfl⟩
            rw [← hwz] at HI3 ⊢
            clear hwz
            have HI := HI3
            clear HI3
            have k1 := HI.out.cell j (by omega)
            have k2 := HI.out.cell jp (by omega)
            have f1 := HI.out.fz j
            have f2 := HI.out.fz jp
            obtain ⟨X, hX⟩ : ∃ x, x = gi L2 j := ⟨_, rfl⟩
            obtain ⟨Y, hY⟩ : ∃ y, y = gi L2 jp := ⟨_, rfl⟩
            obtain ⟨u, k3⟩ : ∃ u, (wz.setCell ⟨g, j, none⟩ (.int .i64 Y)).cell? ⟨g, jp, none⟩ = some u := by
              have := (HI.out.row.stored j (.int .i64 Y)).1.cellAt jp (by omega)
              exact ⟨_, this.trans (List.getElem?_eq_getElem (by simp; have := HI.out.len; omega))⟩
            have HS := hide (HI.out.swap j jp (by omega) (by omega) (by omega))
            rw [← hX, ← hY] at HS
            rw [← hX] at k1
            rw [← hY] at k2
            clear hX hY
            have mixed : Try.prog.follows .mixedOrders = true := by kernel_rfl
            go_wp2_with fail
            go_big_region_o
            obtain ⟨W, hW⟩ : ∃ W, W = ((wz.setCell ⟨g, j, none⟩ (.int .i64 Y)).setCell ⟨g, jp, none⟩ (.int .i64 X)).drew := ⟨_, rfl⟩
            have HNW := hide HS.out.1.drew
            rw [← hW] at HNW
            rw [← hW]
            clear hW k1 k2 k3 f1 f2
            go_wp2
            go_roundw
            case rel => exact ⟨jp, _, rfl, by omega, by omega, HNW.out, fun t => by rw [HS.out.2, exch_comm, HX.out.1, ← hj1, rot_down jp i t (by omega)], fun h h1 h2 => by
              by_cases e : h = jp
              · rw [e, HJP.out, ← HXY.out.1, ← HXY.out.2]; exact HL.out
              · exact HX.out.2 h (by omega) h2⟩
            case measure => simp [intOf]; omega
          · have HL := hide hl
            clear hl
            go_wp2
            refine wp_region_held_drew (S := fun wx => (wx.cell? ⟨g, j, none⟩ = some (.int .i64 x) ∧ wx.cell? ⟨g, jp, none⟩ = some (.int .i64 y)) ∧ Below wr.heap.size wr wx) (by kernel_rfl) ⟨⟨k1, k2⟩, (Below.refl _ _).drew⟩ (fun hHeld => ?_)
            refine wpAnyH_take (i := 0) (v := ?v17) rfl (by kernel_rfl) (by kernel_rfl) (by kernel_rfl) (fun _ _ _ h => h) (Or.inl ⟨by rfl, ?y17⟩) (by assumption) ?r17
            case y17 => (intro w hSw; (try dsimp only at hSw); go_simp; try (with_reducible rfl))
            simp only [List.getElem_toArray, List.getElem_cons_zero, Act.put, List.setIfInBounds_toArray, List.set_cons_zero, List.set_cons_succ]
            refine wpAnyH_take (i := 1) (v := ?v18) rfl (by kernel_rfl) (by kernel_rfl) (by kernel_rfl) (fun _ _ _ h => h) (Or.inl ⟨by rfl, ?y18⟩) (by assumption) ?r18
            case y18 => (intro w hSw; (try dsimp only at hSw); go_simp; try (with_reducible rfl))
            simp only [List.getElem_toArray, List.getElem_cons_succ, List.getElem_cons_zero, Act.put, List.setIfInBounds_toArray, List.set_cons_zero, List.set_cons_succ]
            refine wpAnyH_take (i := 2) (v := ?v19) rfl (by kernel_rfl) (by kernel_rfl) (by kernel_rfl) (fun _ _ _ h => h) (Or.inl ⟨by rfl, ?y19⟩) (by assumption) ?r19
            case y19 => (intro w hSw; (try dsimp only at hSw); go_simp; try (with_reducible rfl))
            simp only [List.getElem_toArray, List.getElem_cons_succ, List.getElem_cons_zero, Act.put, List.setIfInBounds_toArray, List.set_cons_zero, List.set_cons_succ]
            refine wpAnyH_take (i := 3) (v := ?v20) rfl (by kernel_rfl) (by kernel_rfl) (by kernel_rfl) (fun _ _ _ h => h) (Or.inl ⟨by rfl, ?y20⟩) (by assumption) ?r20
            case y20 => (intro w hSw; (try dsimp only at hSw); go_simp; try (with_reducible rfl))
            simp only [List.getElem_toArray, List.getElem_cons_succ, List.getElem_cons_zero, Act.put, List.setIfInBounds_toArray, List.set_cons_zero, List.set_cons_succ]
            refine wpAnyH_take (i := 4) (v := ?v21) rfl (by kernel_rfl) (by kernel_rfl) (by kernel_rfl) (fun _ _ _ h => h) (Or.inl ⟨by rfl, ?y21⟩) (by assumption) ?r21
            case y21 => (intro w hSw; (try dsimp only at hSw); go_simp; try (with_reducible rfl))
            simp only [List.getElem_toArray, List.getElem_cons_succ, List.getElem_cons_zero, Act.put, List.setIfInBounds_toArray, List.set_cons_zero, List.set_cons_succ]
            refine wpAnyH_take (i := 5) (v := ?v22) rfl (by kernel_rfl) (by kernel_rfl) (by kernel_rfl) (fun _ _ _ h => h) (Or.inl ⟨by rfl, ?y22⟩) (by assumption) ?r22
            case y22 => (intro w hSw; (try dsimp only at hSw); go_simp; try (with_reducible rfl))
            simp only [List.getElem_toArray, List.getElem_cons_succ, List.getElem_cons_zero, Act.put, List.setIfInBounds_toArray, List.set_cons_zero, List.set_cons_succ]
            refine wpAnyH_take (i := 6) (v := ?v23) rfl (by kernel_rfl) (by kernel_rfl) (by kernel_rfl) (fun _ _ _ h => h) (Or.inl ⟨by rfl, ?y23⟩) (by assumption) ?r23
            case y23 => (intro w hSw; (try dsimp only at hSw); go_simp; try (with_reducible rfl))
            simp only [List.getElem_toArray, List.getElem_cons_succ, List.getElem_cons_zero, Act.put, List.setIfInBounds_toArray, List.set_cons_zero, List.set_cons_succ]
            refine wpAnyH_take (i := 7) (v := ?v24) rfl (by kernel_rfl) (by kernel_rfl) (by kernel_rfl) (fun _ _ _ h => h) (Or.inl ⟨by rfl, ?y24⟩) (by assumption) ?r24
            case y24 => (intro w hSw; (try dsimp only at hSw); go_simp; try (with_reducible rfl))
            simp only [List.getElem_toArray, List.getElem_cons_succ, List.getElem_cons_zero, Act.put, List.setIfInBounds_toArray, List.set_cons_zero, List.set_cons_succ]
            refine wpAnyH_take (i := 8) (v := ?v25) rfl (by kernel_rfl) (by kernel_rfl) (by kernel_rfl) (fun _ _ _ h => h) (Or.inl ⟨by rfl, ?y25⟩) (by assumption) ?r25
            case y25 => (intro w hSw; (try dsimp only at hSw); go_simp; try (with_reducible rfl))
            simp only [List.getElem_toArray, List.getElem_cons_succ, List.getElem_cons_zero, Act.put, List.setIfInBounds_toArray, List.set_cons_zero, List.set_cons_succ]
            refine wpAnyH_take (i := 9) (v := ?v26) rfl (by kernel_rfl) (by kernel_rfl) (by kernel_rfl) (fun _ _ _ h => h) (Or.inl ⟨by rfl, ?y26⟩) (by assumption) ?r26
            case y26 => (intro w hSw; (try dsimp only at hSw); go_simp; try (with_reducible rfl))
            simp only [List.getElem_toArray, List.getElem_cons_succ, List.getElem_cons_zero, Act.put, List.setIfInBounds_toArray, List.set_cons_zero, List.set_cons_succ]
            refine wpAnyH_take (i := 10) (v := ?v27) rfl (by kernel_rfl) (by kernel_rfl) (by kernel_rfl) (fun _ _ _ h => h) (Or.inl ⟨by rfl, ?y27⟩) (by assumption) ?r27
            case y27 => (intro w hSw; (try dsimp only at hSw); go_simp; try (with_reducible rfl))
            simp only [List.getElem_toArray, List.getElem_cons_succ, List.getElem_cons_zero, Act.put, List.setIfInBounds_toArray, List.set_cons_zero, List.set_cons_succ]
            refine wpAnyH_take (i := 11) (v := ?v28) rfl (by kernel_rfl) (by kernel_rfl) (by kernel_rfl) (fun _ _ _ h => h) (Or.inl ⟨by rfl, ?y28⟩) (by assumption) ?r28
            case y28 => (intro w hSw; (try dsimp only at hSw); go_simp; try (with_reducible rfl))
            simp only [List.getElem_toArray, List.getElem_cons_succ, List.getElem_cons_zero, Act.put, List.setIfInBounds_toArray, List.set_cons_zero, List.set_cons_succ]
            refine wpAnyH_take (i := 12) (v := ?v29) rfl (by kernel_rfl) (by kernel_rfl) (by kernel_rfl) (fun _ _ _ h => h) (Or.inl ⟨by rfl, ?y29⟩) (by assumption) ?r29
            case y29 => (intro w hSw; (try dsimp only at hSw); go_simp; try (with_reducible rfl))
            simp only [List.getElem_toArray, List.getElem_cons_succ, List.getElem_cons_zero, Act.put, List.setIfInBounds_toArray, List.set_cons_zero, List.set_cons_succ]
            refine wpAnyH_take (i := 13) (v := ?v30) rfl (by kernel_rfl) (by kernel_rfl) (by kernel_rfl) (fun _ _ _ h => h) (Or.inl ⟨by rfl, ?y30⟩) (by assumption) ?r30
            case y30 => (intro w hSw; (try dsimp only at hSw); go_simp; try (with_reducible rfl))
            simp only [List.getElem_toArray, List.getElem_cons_succ, List.getElem_cons_zero, Act.put, List.setIfInBounds_toArray, List.set_cons_zero, List.set_cons_succ]
            refine wpAnyH_ready (rs := [14]) (by kernel_rfl) (by simp) ?_
            refine AllReadyH.cons rfl (fun K hK => ?_) AllReadyH.nil
            simp only [List.getElem_toArray, List.getElem_cons_succ, List.getElem_cons_zero]
            go_simp
            go_at_call 73
            refine (CC.out _ hHeld.2).mono ?_
            rintro e w3 ⟨c, rfl, hc, hb⟩
            have hcn : ¬ c < 0 := fun h => HL.out (hc.1 h)
            dsimp only
            refine hK.out _ _ ?_ (fun hHeld => ?_)
            · exact keep2s (by assumption) hb
            clear hK K
            try simp only [Act.put, List.setIfInBounds_toArray, List.set_cons_zero, List.set_cons_succ]
            refine wpAnyH_take (i := 15) (v := ?v31) rfl (by kernel_rfl) (by kernel_rfl) (by kernel_rfl) (fun _ _ _ h => h) (Or.inl ⟨by rfl, ?y31⟩) (by assumption) ?r31
            case y31 => (intro w hSw; (try dsimp only at hSw); go_simp; try (with_reducible rfl))
            simp only [List.getElem_toArray, List.getElem_cons_succ, List.getElem_cons_zero, Act.put, List.setIfInBounds_toArray, List.set_cons_zero, List.set_cons_succ]
            refine wpAnyH_take (i := 16) (v := ?v32) rfl (by kernel_rfl) (by kernel_rfl) (by kernel_rfl) (fun _ _ _ h => h) (Or.inl ⟨by rfl, ?y32⟩) (by assumption) ?r32
            case y32 => (intro w hSw; (try dsimp only at hSw); go_simp; try (with_reducible rfl))
            simp only [List.getElem_toArray, List.getElem_cons_succ, List.getElem_cons_zero, Act.put, List.setIfInBounds_toArray, List.set_cons_zero, List.set_cons_succ]
            refine wpAnyH_done (by kernel_rfl) ?_ _
            have HI3 := hide (HI.out.below hHeld.2)
            have HO := hide (HOUT.out (fun _ => by rw [← HXY.out.1, ← HXY.out.2]; exact HL.out))
            clear hHeld k1 k2 HI CC hc
            go_wp2
            go_roundw
            case rel => exact ⟨i + 1, L2, by go_num, by omega, .inl (by omega), HI3.out, HO.out⟩
            case measure => simp [intOf]; omega
        · obtain rfl : j = a := by omega
          have hjaI : ¬ (j : Int) < (j : Int) := by omega
          have k1 : True := trivial
          go_wp2
          refine wp_region_held_drew (S := fun wx => Below wr.heap.size wr wx) (by kernel_rfl) (Below.refl _ _).drew (fun hHeld => ?_)
          refine wpAnyH_take (i := 0) (v := ?v33) rfl (by kernel_rfl) (by kernel_rfl) (by kernel_rfl) (fun _ _ _ h => h) (Or.inl ⟨by rfl, ?y33⟩) (by assumption) ?r33
          case y33 => (intro w hSw; (try dsimp only at hSw); go_simp; try (with_reducible rfl))
          simp only [List.getElem_toArray, List.getElem_cons_zero, Act.put, List.setIfInBounds_toArray, List.set_cons_zero, List.set_cons_succ]
          refine wpAnyH_take (i := 1) (v := ?v34) rfl (by kernel_rfl) (by kernel_rfl) (by kernel_rfl) (fun _ _ _ h => h) (Or.inl ⟨by rfl, ?y34⟩) (by assumption) ?r34
          case y34 => (intro w hSw; (try dsimp only at hSw); go_simp; try (with_reducible rfl))
          simp only [List.getElem_toArray, List.getElem_cons_succ, List.getElem_cons_zero, Act.put, List.setIfInBounds_toArray, List.set_cons_zero, List.set_cons_succ]
          refine wpAnyH_take (i := 2) (v := ?v35) rfl (by kernel_rfl) (by kernel_rfl) (by kernel_rfl) (fun _ _ _ h => h) (Or.inl ⟨by rfl, ?y35⟩) (by assumption) ?r35
          case y35 => (intro w hSw; (try dsimp only at hSw); go_simp; try (with_reducible rfl))
          simp only [List.getElem_toArray, List.getElem_cons_succ, List.getElem_cons_zero, Act.put, List.setIfInBounds_toArray, List.set_cons_zero, List.set_cons_succ]
          refine wpAnyH_take (i := 3) (v := ?v36) rfl (by kernel_rfl) (by kernel_rfl) (by kernel_rfl) (fun _ _ _ h => h) (Or.inl ⟨by rfl, ?y36⟩) (by assumption) ?r36
          case y36 => (intro w hSw; (try dsimp only at hSw); go_simp; try (with_reducible rfl))
          simp only [List.getElem_toArray, List.getElem_cons_succ, List.getElem_cons_zero, Act.put, List.setIfInBounds_toArray, List.set_cons_zero, List.set_cons_succ]
          refine wpAnyH_take (i := 4) (v := undef) rfl (by kernel_rfl) (by kernel_rfl) (by kernel_rfl) (fun _ _ _ h => h) (Or.inr ⟨by rfl, rfl⟩) (by assumption) ?_
          simp only [List.getElem_toArray, List.getElem_cons_succ, List.getElem_cons_zero, Act.put, List.setIfInBounds_toArray, List.set_cons_zero, List.set_cons_succ]
          refine wpAnyH_take (i := 5) (v := undef) rfl (by kernel_rfl) (by kernel_rfl) (by kernel_rfl) (fun _ _ _ h => h) (Or.inr ⟨by rfl, rfl⟩) (by assumption) ?_
          simp only [List.getElem_toArray, List.getElem_cons_succ, List.getElem_cons_zero, Act.put, List.setIfInBounds_toArray, List.set_cons_zero, List.set_cons_succ]
          refine wpAnyH_take (i := 6) (v := undef) rfl (by kernel_rfl) (by kernel_rfl) (by kernel_rfl) (fun _ _ _ h => h) (Or.inr ⟨by rfl, rfl⟩) (by assumption) ?_
          simp only [List.getElem_toArray, List.getElem_cons_succ, List.getElem_cons_zero, Act.put, List.setIfInBounds_toArray, List.set_cons_zero, List.set_cons_succ]
          refine wpAnyH_take (i := 7) (v := undef) rfl (by kernel_rfl) (by kernel_rfl) (by kernel_rfl) (fun _ _ _ h => h) (Or.inr ⟨by rfl, rfl⟩) (by assumption) ?_
          simp only [List.getElem_toArray, List.getElem_cons_succ, List.getElem_cons_zero, Act.put, List.setIfInBounds_toArray, List.set_cons_zero, List.set_cons_succ]
          refine wpAnyH_take (i := 8) (v := undef) rfl (by kernel_rfl) (by kernel_rfl) (by kernel_rfl) (fun _ _ _ h => h) (Or.inr ⟨by rfl, rfl⟩) (by assumption) ?_
          simp only [List.getElem_toArray, List.getElem_cons_succ, List.getElem_cons_zero, Act.put, List.setIfInBounds_toArray, List.set_cons_zero, List.set_cons_succ]
          refine wpAnyH_take (i := 9) (v := undef) rfl (by kernel_rfl) (by kernel_rfl) (by kernel_rfl) (fun _ _ _ h => h) (Or.inr ⟨by rfl, rfl⟩) (by assumption) ?_
          simp only [List.getElem_toArray, List.getElem_cons_succ, List.getElem_cons_zero, Act.put, List.setIfInBounds_toArray, List.set_cons_zero, List.set_cons_succ]
          refine wpAnyH_take (i := 10) (v := undef) rfl (by kernel_rfl) (by kernel_rfl) (by kernel_rfl) (fun _ _ _ h => h) (Or.inr ⟨by rfl, rfl⟩) (by assumption) ?_
          simp only [List.getElem_toArray, List.getElem_cons_succ, List.getElem_cons_zero, Act.put, List.setIfInBounds_toArray, List.set_cons_zero, List.set_cons_succ]
          refine wpAnyH_take (i := 11) (v := undef) rfl (by kernel_rfl) (by kernel_rfl) (by kernel_rfl) (fun _ _ _ h => h) (Or.inr ⟨by rfl, rfl⟩) (by assumption) ?_
          simp only [List.getElem_toArray, List.getElem_cons_succ, List.getElem_cons_zero, Act.put, List.setIfInBounds_toArray, List.set_cons_zero, List.set_cons_succ]
          refine wpAnyH_take (i := 12) (v := undef) rfl (by kernel_rfl) (by kernel_rfl) (by kernel_rfl) (fun _ _ _ h => h) (Or.inr ⟨by rfl, rfl⟩) (by assumption) ?_
          simp only [List.getElem_toArray, List.getElem_cons_succ, List.getElem_cons_zero, Act.put, List.setIfInBounds_toArray, List.set_cons_zero, List.set_cons_succ]
          refine wpAnyH_take (i := 13) (v := undef) rfl (by kernel_rfl) (by kernel_rfl) (by kernel_rfl) (fun _ _ _ h => h) (Or.inr ⟨by rfl, rfl⟩) (by assumption) ?_
          simp only [List.getElem_toArray, List.getElem_cons_succ, List.getElem_cons_zero, Act.put, List.setIfInBounds_toArray, List.set_cons_zero, List.set_cons_succ]
          refine wpAnyH_take (i := 14) (v := undef) rfl (by kernel_rfl) (by kernel_rfl) (by kernel_rfl) (fun _ _ _ h => h) (Or.inr ⟨by rfl, rfl⟩) (by assumption) ?_
          simp only [List.getElem_toArray, List.getElem_cons_succ, List.getElem_cons_zero, Act.put, List.setIfInBounds_toArray, List.set_cons_zero, List.set_cons_succ]
          refine wpAnyH_take (i := 15) (v := undef) rfl (by kernel_rfl) (by kernel_rfl) (by kernel_rfl) (fun _ _ _ h => h) (Or.inr ⟨by rfl, rfl⟩) (by assumption) ?_
          simp only [List.getElem_toArray, List.getElem_cons_succ, List.getElem_cons_zero, Act.put, List.setIfInBounds_toArray, List.set_cons_zero, List.set_cons_succ]
          refine wpAnyH_take (i := 16) (v := ?v49) rfl (by kernel_rfl) (by kernel_rfl) (by kernel_rfl) (fun _ _ _ h => h) (Or.inl ⟨by rfl, ?y49⟩) (by assumption) ?r49
          case y49 => (intro w hSw; (try dsimp only at hSw); go_simp; try (with_reducible rfl))
          simp only [List.getElem_toArray, List.getElem_cons_succ, List.getElem_cons_zero, Act.put, List.setIfInBounds_toArray, List.set_cons_zero, List.set_cons_succ]
          refine wpAnyH_done (by kernel_rfl) ?_ _
          have HI3 := hide (HI.out.below hHeld)
          have HO := hide (HOUT.out (fun h => absurd h (Nat.lt_irrefl _)))
          clear hHeld HI
          go_wp2
          refine ⟨⟨i + 1, L2, ?_, ?_, ?_, ?_, ?_⟩, ?_⟩
          · first | rfl | go_num
          · omega
          · exact .inl (by omega)
          · exact HI3.out
          · exact HO.out
          · simp [intOf]; omega
    · have hltI : ¬ (i : Int) < (b : Int) := by omega
      have HI := hide hI
      have HF : Hid (So lt (gi L1) a b) := HP.out.2.2.sub (Nat.le_refl _) (by omega)
      clear hI
      go_wp2
      go_end0
      exact ⟨rfl, L1, HI.out, HP.out.1, HF.out⟩
end Go.Proofs.Ytohcjafklfemfam.SrtI

namespace Go.Proofs.Ytohcjafklfemfam.SrtI
open Go.RowKit L1 Srt
set_option linter.unusedVariables false

set_option maxRecDepth 100000 in
set_option maxHeartbeats 400000 in
theorem isNaN_any (x : Int) (w : World) : Calls Try.prog 88 #[.int .i64 x] w fun e w' => e = .returned (.bool false) ∧ w = w' := by
  have hx : (x != x) = false := by simp
  go_enter Try.func88, Try.ntmps88
  go_wp2
  go_ret
  exact ⟨rfl, rfl⟩
set_option maxRecDepth 100000 in
set_option maxHeartbeats 400000 in
theorem compare_any (x y : Int) (w : World) : Calls Try.prog 74 #[.int .i64 x, .int .i64 y] w fun e w' => (∃ c : Int, e = .returned (.int .i64 c) ∧ (c < 0 ↔ x < y)) ∧ w = w' := by
  have C := hide (isNaN_any)
  by_cases h1 : x < y
  · have H1 := hide h1
    go_enter Try.func74, Try.ntmps74
    go_wp2_with fail
    refine (C.out _ _).mono ?_
    rintro e w1 ⟨rfl, rfl⟩
    go_wp2_with fail
    refine (C.out _ _).mono ?_
    rintro e w1 ⟨rfl, rfl⟩
    go_wp2
    go_ret
    exact ⟨⟨-1, rfl, by have := H1.out; omega⟩, rfl⟩
  · by_cases h2 : y < x
    · have H1 := hide h1
      go_enter Try.func74, Try.ntmps74
      go_wp2_with fail
      refine (C.out _ _).mono ?_
      rintro e w1 ⟨rfl, rfl⟩
      go_wp2_with fail
      refine (C.out _ _).mono ?_
      rintro e w1 ⟨rfl, rfl⟩
      go_wp2
      go_ret
      exact ⟨⟨1, rfl, by have := H1.out; omega⟩, rfl⟩
    · have H1 := hide h1
      go_enter Try.func74, Try.ntmps74
      go_wp2_with fail
      refine (C.out _ _).mono ?_
      rintro e w1 ⟨rfl, rfl⟩
      go_wp2_with fail
      refine (C.out _ _).mono ?_
      rintro e w1 ⟨rfl, rfl⟩
      go_wp2
      go_ret
      exact ⟨⟨0, rfl, by have := H1.out; omega⟩, rfl⟩
theorem keep3s {wa wb W : World} {p0 p1 p2 : Addr} {v0 v1 v2 : Value} (h : (wa.cell? p0 = some v0 ∧ wa.cell? p1 = some v1 ∧ wa.cell? p2 = some v2) ∧ Below W.heap.size W wa) (hb : Below wa.heap.size wa wb) : (wb.cell? p0 = some v0 ∧ wb.cell? p1 = some v1 ∧ wb.cell? p2 = some v2) ∧ Below W.heap.size W wb :=
  ⟨⟨(hb.cell (blk_ltS h.1.1)).trans h.1.1, (hb.cell (blk_ltS h.1.2.1)).trans h.1.2.1, (hb.cell (blk_ltS h.1.2.2)).trans h.1.2.2⟩, h.2.trans (hb.mono h.2.size)⟩
set_option maxRecDepth 100000 in
set_option maxHeartbeats 1000000 in
theorem clo_any (v : List Int) (a : Option Addr) (n cap pb : Nat) (x y : Int) (wr : World) (hn : v.length = n) (hs : Sl wr a v) (hp : wr.cell? ⟨pb, 0, none⟩ = some (.slice a n cap)) (hx0 : 0 ≤ x) (hx1 : x < (n : Int)) (hy0 : 0 ≤ y) (hy1 : y < (n : Int)) :
    Calls Try.prog 73 #[.int .i64 y, .int .i64 x, .pointer (some ⟨pb, 0, none⟩)] wr fun e w' => ∃ c : Int, e = .returned (.int .i64 c) ∧ (c < 0 ↔ vat v x < vat v y) ∧ Below wr.heap.size wr w' := by
  obtain ⟨b, off, rfl, k1⟩ := hs x.toNat (by omega)
  obtain ⟨b2, off2, e2, k2⟩ := hs y.toNat (by omega)
  simp only [Option.some.injEq, Addr.mk.injEq, and_true] at e2
  obtain ⟨rfl, rfl⟩ := e2
  obtain ⟨vx, hvx⟩ : ∃ q, q = vat v x := ⟨_, rfl⟩
  obtain ⟨vy, hvy⟩ : ∃ q, q = vat v y := ⟨_, rfl⟩
  have C := hide (compare_any vx vy)
  have q1 : wr.cell? ⟨b, off + x.toNat, none⟩ = some (.int .i64 vx) := by rw [hvx]; exact k1
  have q2 : wr.cell? ⟨b, off + y.toNat, none⟩ = some (.int .i64 vy) := by rw [hvy]; exact k2
  rw [← hvx, ← hvy]
  clear k1 k2 hvx hvy hs hn
  go_enter Try.func73, Try.ntmps73
  go_wp2
  refine wp_region_held_drew (S := fun wx => (wx.cell? ⟨pb, 0, none⟩ = some (.slice (some ⟨b, off, none⟩) n cap) ∧ wx.cell? ⟨b, off + x.toNat, none⟩ = some (.int .i64 vx) ∧ wx.cell? ⟨b, off + y.toNat, none⟩ = some (.int .i64 vy)) ∧ Below wr.heap.size wr wx) (by kernel_rfl) ⟨⟨hp, q1, q2⟩, (Below.refl _ _).drew⟩ (fun hHeld => ?_)
  refine wpAnyH_take (i := 0) (v := ?v50) rfl (by kernel_rfl) (by kernel_rfl) (by kernel_rfl) (fun _ _ _ h => h) (Or.inl ⟨by rfl, ?y50⟩) (by assumption) ?r50
  case y50 => (intro w hSw; (try dsimp only at hSw); go_simp; try (with_reducible rfl))
  simp only [List.getElem_toArray, List.getElem_cons_zero, Act.put, List.setIfInBounds_toArray, List.set_cons_zero, List.set_cons_succ]
  refine wpAnyH_take (i := 1) (v := ?v51) rfl (by kernel_rfl) (by kernel_rfl) (by kernel_rfl) (fun _ _ _ h => h) (Or.inl ⟨by rfl, ?y51⟩) (by assumption) ?r51
  case y51 => (intro w hSw; (try dsimp only at hSw); go_simp; try (with_reducible rfl))
  simp only [List.getElem_toArray, List.getElem_cons_succ, List.getElem_cons_zero, Act.put, List.setIfInBounds_toArray, List.set_cons_zero, List.set_cons_succ]
  refine wpAnyH_take (i := 2) (v := ?v52) rfl (by kernel_rfl) (by kernel_rfl) (by kernel_rfl) (fun _ _ _ h => h) (Or.inl ⟨by rfl, ?y52⟩) (by assumption) ?r52
  case y52 => (intro w hSw; (try dsimp only at hSw); go_simp; try (with_reducible rfl))
  simp only [List.getElem_toArray, List.getElem_cons_succ, List.getElem_cons_zero, Act.put, List.setIfInBounds_toArray, List.set_cons_zero, List.set_cons_succ]
  refine wpAnyH_take (i := 3) (v := ?v53) rfl (by kernel_rfl) (by kernel_rfl) (by kernel_rfl) (fun _ _ _ h => h) (Or.inl ⟨by rfl, ?y53⟩) (by assumption) ?r53
  case y53 => (intro w hSw; (try dsimp only at hSw); go_simp; try (with_reducible rfl))
  simp only [List.getElem_toArray, List.getElem_cons_succ, List.getElem_cons_zero, Act.put, List.setIfInBounds_toArray, List.set_cons_zero, List.set_cons_succ]
  refine wpAnyH_take (i := 4) (v := ?v54) rfl (by kernel_rfl) (by kernel_rfl) (by kernel_rfl) (fun _ _ _ h => h) (Or.inl ⟨by rfl, ?y54⟩) (by assumption) ?r54
  case y54 => (intro w hSw; (try dsimp only at hSw); go_simp; try (with_reducible rfl))
  simp only [List.getElem_toArray, List.getElem_cons_succ, List.getElem_cons_zero, Act.put, List.setIfInBounds_toArray, List.set_cons_zero, List.set_cons_succ]
  refine wpAnyH_take (i := 5) (v := ?v55) rfl (by kernel_rfl) (by kernel_rfl) (by kernel_rfl) (fun _ _ _ h => h) (Or.inl ⟨by rfl, ?y55⟩) (by assumption) ?r55
  case y55 => (intro w hSw; (try dsimp only at hSw); go_simp; try (with_reducible rfl))
  simp only [List.getElem_toArray, List.getElem_cons_succ, List.getElem_cons_zero, Act.put, List.setIfInBounds_toArray, List.set_cons_zero, List.set_cons_succ]
  refine wpAnyH_take (i := 6) (v := ?v56) rfl (by kernel_rfl) (by kernel_rfl) (by kernel_rfl) (fun _ _ _ h => h) (Or.inl ⟨by rfl, ?y56⟩) (by assumption) ?r56
  case y56 => (intro w hSw; (try dsimp only at hSw); go_simp; try (with_reducible rfl))
  simp only [List.getElem_toArray, List.getElem_cons_succ, List.getElem_cons_zero, Act.put, List.setIfInBounds_toArray, List.set_cons_zero, List.set_cons_succ]
  refine wpAnyH_take (i := 7) (v := ?v57) rfl (by kernel_rfl) (by kernel_rfl) (by kernel_rfl) (fun _ _ _ h => h) (Or.inl ⟨by rfl, ?y57⟩) (by assumption) ?r57
  case y57 => (intro w hSw; (try dsimp only at hSw); go_simp; try (with_reducible rfl))
  simp only [List.getElem_toArray, List.getElem_cons_succ, List.getElem_cons_zero, Act.put, List.setIfInBounds_toArray, List.set_cons_zero, List.set_cons_succ]
  refine wpAnyH_ready (rs := [8]) (by kernel_rfl) (by simp) ?_
  refine AllReadyH.cons rfl (fun K hK => ?_) AllReadyH.nil
  simp only [List.getElem_toArray, List.getElem_cons_succ, List.getElem_cons_zero]
  go_simp
  go_at_call 74
  refine (C.out _).mono ?_
  rintro e w3 ⟨⟨c, rfl, hc⟩, rfl⟩
  dsimp only
  refine hK.out _ _ ?_ (fun hHeld => ?_)
  · exact hHeld
  clear hK K
  try simp only [Act.put, List.setIfInBounds_toArray, List.set_cons_zero, List.set_cons_succ]
  refine wpAnyH_take (i := 9) (v := ?v58) rfl (by kernel_rfl) (by kernel_rfl) (by kernel_rfl) (fun _ _ _ h => h) (Or.inl ⟨by rfl, ?y58⟩) (by assumption) ?r58
  case y58 => (intro w hSw; (try dsimp only at hSw); go_simp; try (with_reducible rfl))
  simp only [List.getElem_toArray, List.getElem_cons_succ, List.getElem_cons_zero, Act.put, List.setIfInBounds_toArray, List.set_cons_zero, List.set_cons_succ]
  refine wpAnyH_done (by kernel_rfl) ?_ _
  have B1 := hide hHeld.2
  clear hHeld hp q1 q2
  go_wp2
  go_ret
  exact ⟨c, rfl, hc, B1.out⟩
end Go.Proofs.Ytohcjafklfemfam.SrtI

namespace Go.Proofs.Ytohcjafklfemfam.SrtI
open Go.RowKit L1 Srt
set_option linter.unusedVariables false

theorem mid64 (x : Int) (h0 : 0 ≤ x) (h : x ≤ 9223372036854775807) : IntKind.u64.wrap x = x := by
  simp only [IntKind.wrap, IntKind.bits, IntKind.signed]
  simp
  omega
set_option maxRecDepth 100000 in
set_option maxHeartbeats 4000000 in
theorem sym_one (w0 : World) (base g cap n : Nat) (pp : Addr) (lt : Int → Int → Prop) (tag : Int → Nat) (S : Int → Prop) (O : Ord lt tag) (hn : n ≤ 1048576) (hC : ∀ wx x y, Below g w0 wx → S x → S y → tag x < tag y → Calls Try.prog 73 #[.int .i64 y, .int .i64 x, .pointer (some pp)] wx fun e w' => ∃ c : Int, e = .returned (.int .i64 c) ∧ (c < 0 ↔ lt y x) ∧ Below wx.heap.size wx w') (w : World) (L : List Int) (a m b : Nat) (ham : a < m) (hmb : m < b) (hb : b ≤ n) (hone : m = a + 1) (hR : RI w0 w base g cap n L) (hS : ∀ t, t < n → S (gi L t)) (hA : So lt (gi L) a m) (hB : So lt (gi L) m b) (hX : Cr tag (gi L) a m b) :
    Calls Try.prog 97 #[.slice (some ⟨g, 0, none⟩) n cap, .int .i64 a, .int .i64 m, .int .i64 b, (.func (.func 73) #[] #[.pointer (some pp)])] w fun e w' => e = .returned (.tuple #[]) ∧ ∃ L', RI w0 w' base g cap n L' ∧ PO a b (gi L) (gi L') ∧ So lt (gi L') a b := by
  have HC := hide hC
  have HR := hide hR
  have HSS := hide hS
  have HA := hide hA
  have HB := hide hB
  have HX := hide hX
  clear hC hR hS hA hB hX
  have hw0 : IntKind.i64.wrap ((m : Int) - (a : Int)) = 1 := by rw [wrapN _ (by omega) (by omega)]; omega
  have HONE := hide hone
  have hmb' : a + 1 ≤ b := by omega
  clear hone
  go_enter Try.func97, Try.ntmps97
  go_wp2
  go_loopw [10, 11] (fun iv jv wr => ∃ i j : Nat, iv = .int .i64 i ∧ jv = .int .i64 j ∧ m ≤ i ∧ i ≤ j ∧ j ≤ b ∧ Hid ((∀ h, m ≤ h → h < i → lt (gi L h) (gi L a)) ∧ ∀ h, j ≤ h → h < b → ¬ lt (gi L h) (gi L a)) ∧ RI w0 wr base g cap n L) (fun iv jv _ => (intOf jv).toNat - (intOf iv).toNat)
  case atStart => exact ⟨m, b, rfl, rfl, Nat.le_refl _, by omega, Nat.le_refl _, ⟨fun h h1 h2 => by omega, fun h h1 h2 => by omega⟩, HR.out⟩
  case round =>
    obtain ⟨i, j, rfl, rfl, hmi, hij, hjb, HP, hI⟩ := hrel
    have HI := hide hI
    clear hI
    by_cases hlt : i < j
    · have hltI : (i : Int) < (j : Int) := by omega
      obtain ⟨h, hh⟩ : ∃ h, h = (i + j) / 2 := ⟨_, rfl⟩
      have hw1 : IntKind.i64.wrap ((i : Int) + (j : Int)) = (i : Int) + (j : Int) := wrapN _ (by omega) (by omega)
      have hhe : ((i : Int) + (j : Int)) / 2 = (h : Int) := by omega
      have hhI : ((i : Int) + (j : Int)) / 2 < (n : Int) := by omega
      have hh0 : (0 : Int) ≤ ((i : Int) + (j : Int)) / 2 := by omega
      have hht : (((i : Int) + (j : Int)) / 2).toNat = h := by omega
      have hh1 : IntKind.i64.wrap (((i : Int) + (j : Int)) / 2 + 1) = ((h + 1 : Nat) : Int) := by rw [wrapN _ (by omega) (by omega)]; omega
      have HHE := hide hhe
      clear hhe
      have haI : (a : Int) < (n : Int) := by omega
      have ha0 : (0 : Int) ≤ (a : Int) := by omega
      have htg : tag (gi L a) < tag (gi L h) := HX.out a h (Nat.le_refl _) (by omega) (by omega) (by omega)
      have hih : i ≤ h ∧ h < j := by omega
      clear hh
      have CC := hide (fun wx (hb : Below wr.heap.size wr wx) => HC.out wx (gi L a) (gi L h) (HI.out.bel.trans (hb.mono (Nat.le_of_lt HI.out.lt))) (HSS.out a (by omega)) (HSS.out h (by omega)) htg)
      have k1 := HI.out.cell h (by omega)
      have k2 := HI.out.cell a (by omega)
      obtain ⟨x, hx⟩ : ∃ x, x = gi L h := ⟨_, rfl⟩
      obtain ⟨y, hy⟩ : ∃ y, y = gi L a := ⟨_, rfl⟩
      rw [← hx, ← hy] at CC
      rw [← hx] at k1
      rw [← hy] at k2
      have HXY : Hid (x = gi L h ∧ y = gi L a) := ⟨hx, hy⟩
      clear hx hy htg
      by_cases hl : lt x y
      · have HL := hide hl
        clear hl
        go_wp2
        refine wp_region_held_drew (S := fun wx => (wx.cell? ⟨g, h, none⟩ = some (.int .i64 x) ∧ wx.cell? ⟨g, a, none⟩ = some (.int .i64 y)) ∧ Below wr.heap.size wr wx) (by kernel_rfl) ⟨⟨k1, k2⟩, (Below.refl _ _).drew⟩ (fun hHeld => ?_)
        refine wpAnyH_take (i := 0) (v := ?v50) rfl (by kernel_rfl) (by kernel_rfl) (by kernel_rfl) (fun _ _ _ h => h) (Or.inl ⟨by rfl, ?y50⟩) (by assumption) ?r50
        case y50 => (intro w hSw; (try dsimp only at hSw); go_simp; try (with_reducible rfl))
        simp only [List.getElem_toArray, List.getElem_cons_zero, Act.put, List.setIfInBounds_toArray, List.set_cons_zero, List.set_cons_succ]
        refine wpAnyH_take (i := 1) (v := ?v51) rfl (by kernel_rfl) (by kernel_rfl) (by kernel_rfl) (fun _ _ _ h => h) (Or.inl ⟨by rfl, ?y51⟩) (by assumption) ?r51
        case y51 => (intro w hSw; (try dsimp only at hSw); go_simp; try (with_reducible rfl))
        simp only [List.getElem_toArray, List.getElem_cons_succ, List.getElem_cons_zero, Act.put, List.setIfInBounds_toArray, List.set_cons_zero, List.set_cons_succ]
        refine wpAnyH_take (i := 2) (v := ?v52) rfl (by kernel_rfl) (by kernel_rfl) (by kernel_rfl) (fun _ _ _ h => h) (Or.inl ⟨by rfl, ?y52⟩) (by assumption) ?r52
        case y52 => (intro w hSw; (try dsimp only at hSw); go_simp; try (with_reducible rfl))
        simp only [List.getElem_toArray, List.getElem_cons_succ, List.getElem_cons_zero, Act.put, List.setIfInBounds_toArray, List.set_cons_zero, List.set_cons_succ]
        refine wpAnyH_take (i := 3) (v := ?v53) rfl (by kernel_rfl) (by kernel_rfl) (by kernel_rfl) (fun _ _ _ h => h) (Or.inl ⟨by rfl, ?y53⟩) (by assumption) ?r53
        case y53 => (intro w hSw; (try dsimp only at hSw); go_simp; try (with_reducible rfl))
        simp only [List.getElem_toArray, List.getElem_cons_succ, List.getElem_cons_zero, Act.put, List.setIfInBounds_toArray, List.set_cons_zero, List.set_cons_succ]
        refine wpAnyH_take (i := 4) (v := ?v54) rfl (by kernel_rfl) (by kernel_rfl) (by kernel_rfl) (fun _ _ _ h => h) (Or.inl ⟨by rfl, ?y54⟩) (by assumption) ?r54
        case y54 => (intro w hSw; (try dsimp only at hSw); go_simp; try (with_reducible rfl))
        simp only [List.getElem_toArray, List.getElem_cons_succ, List.getElem_cons_zero, Act.put, List.setIfInBounds_toArray, List.set_cons_zero, List.set_cons_succ]
        refine wpAnyH_take (i := 5) (v := ?v55) rfl (by kernel_rfl) (by kernel_rfl) (by kernel_rfl) (fun _ _ _ h => h) (Or.inl ⟨by rfl, ?y55⟩) (by assumption) ?r55
        case y55 => (intro w hSw; (try dsimp only at hSw); go_simp; try (with_reducible rfl))
        simp only [List.getElem_toArray, List.getElem_cons_succ, List.getElem_cons_zero, Act.put, List.setIfInBounds_toArray, List.set_cons_zero, List.set_cons_succ]
        refine wpAnyH_take (i := 6) (v := ?v56) rfl (by kernel_rfl) (by kernel_rfl) (by kernel_rfl) (fun _ _ _ h => h) (Or.inl ⟨by rfl, ?y56⟩) (by assumption) ?r56
        case y56 => (intro w hSw; (try dsimp only at hSw); go_simp; try (with_reducible rfl))
        simp only [List.getElem_toArray, List.getElem_cons_succ, List.getElem_cons_zero, Act.put, List.setIfInBounds_toArray, List.set_cons_zero, List.set_cons_succ]
        refine wpAnyH_take (i := 7) (v := ?v57) rfl (by kernel_rfl) (by kernel_rfl) (by kernel_rfl) (fun _ _ _ h => h) (Or.inl ⟨by rfl, ?y57⟩) (by assumption) ?r57
        case y57 => (intro w hSw; (try dsimp only at hSw); go_simp; try (with_reducible rfl))
        simp only [List.getElem_toArray, List.getElem_cons_succ, List.getElem_cons_zero, Act.put, List.setIfInBounds_toArray, List.set_cons_zero, List.set_cons_succ]
        refine wpAnyH_take (i := 8) (v := ?v58) rfl (by kernel_rfl) (by kernel_rfl) (by kernel_rfl) (fun _ _ _ h => h) (Or.inl ⟨by rfl, ?y58⟩) (by assumption) ?r58
        case y58 => (intro w hSw; (try dsimp only at hSw); go_simp; try (with_reducible rfl))
        simp only [List.getElem_toArray, List.getElem_cons_succ, List.getElem_cons_zero, Act.put, List.setIfInBounds_toArray, List.set_cons_zero, List.set_cons_succ]
        refine wpAnyH_ready (rs := [9]) (by kernel_rfl) (by simp) ?_
        refine AllReadyH.cons rfl (fun K hK => ?_) AllReadyH.nil
        simp only [List.getElem_toArray, List.getElem_cons_succ, List.getElem_cons_zero]
        go_simp
        go_at_call 73
        refine (CC.out _ hHeld.2).mono ?_
        rintro e w3 ⟨c, rfl, hc, hb⟩
        have hcn : c < 0 := hc.2 HL.out
        dsimp only
        refine hK.out _ _ ?_ (fun hHeld => ?_)
        · exact keep2s (by assumption) hb
        clear hK K
        try simp only [Act.put, List.setIfInBounds_toArray, List.set_cons_zero, List.set_cons_succ]
        refine wpAnyH_take (i := 10) (v := ?v59) rfl (by kernel_rfl) (by kernel_rfl) (by kernel_rfl) (fun _ _ _ h => h) (Or.inl ⟨by rfl, ?y59⟩) (by assumption) ?r59
        case y59 => (intro w hSw; (try dsimp only at hSw); go_simp; try (with_reducible rfl))
        simp only [List.getElem_toArray, List.getElem_cons_succ, List.getElem_cons_zero, Act.put, List.setIfInBounds_toArray, List.set_cons_zero, List.set_cons_succ]
        refine wpAnyH_done (by kernel_rfl) ?_ _
        have HI3 := hide (HI.out.below hHeld.2)
        have HQ : Hid ((∀ q, m ≤ q → q < h + 1 → lt (gi L q) (gi L a)) ∧ ∀ q, j ≤ q → q < b → ¬ lt (gi L q) (gi L a)) := ⟨fun q h1 h2 => So.le (O := O) HB.out q h h1 (by omega) (by omega) _ (by have := HL.out; rw [HXY.out.1, HXY.out.2] at this; exact this), HP.out.2⟩
        clear hHeld k1 k2 hc CC HI
        go_wp2
        go_roundw
        case rel => exact ⟨h + 1, j, by first | rfl | go_num, rfl, by omega, by omega, hjb, HQ.out, HI3.out⟩
        case measure => have := HHE.out; simp [intOf]; omega
      · have HL := hide hl
        clear hl
        go_wp2
        refine wp_region_held_drew (S := fun wx => (wx.cell? ⟨g, h, none⟩ = some (.int .i64 x) ∧ wx.cell? ⟨g, a, none⟩ = some (.int .i64 y)) ∧ Below wr.heap.size wr wx) (by kernel_rfl) ⟨⟨k1, k2⟩, (Below.refl _ _).drew⟩ (fun hHeld => ?_)
        refine wpAnyH_take (i := 0) (v := ?v60) rfl (by kernel_rfl) (by kernel_rfl) (by kernel_rfl) (fun _ _ _ h => h) (Or.inl ⟨by rfl, ?y60⟩) (by assumption) ?r60
        case y60 => (intro w hSw; (try dsimp only at hSw); go_simp; try (with_reducible rfl))
        simp only [List.getElem_toArray, List.getElem_cons_zero, Act.put, List.setIfInBounds_toArray, List.set_cons_zero, List.set_cons_succ]
        refine wpAnyH_take (i := 1) (v := ?v61) rfl (by kernel_rfl) (by kernel_rfl) (by kernel_rfl) (fun _ _ _ h => h) (Or.inl ⟨by rfl, ?y61⟩) (by assumption) ?r61
        case y61 => (intro w hSw; (try dsimp only at hSw); go_simp; try (with_reducible rfl))
        simp only [List.getElem_toArray, List.getElem_cons_succ, List.getElem_cons_zero, Act.put, List.setIfInBounds_toArray, List.set_cons_zero, List.set_cons_succ]
        refine wpAnyH_take (i := 2) (v := ?v62) rfl (by kernel_rfl) (by kernel_rfl) (by kernel_rfl) (fun _ _ _ h => h) (Or.inl ⟨by rfl, ?y62⟩) (by assumption) ?r62
        case y62 => (intro w hSw; (try dsimp only at hSw); go_simp; try (with_reducible rfl))
        simp only [List.getElem_toArray, List.getElem_cons_succ, List.getElem_cons_zero, Act.put, List.setIfInBounds_toArray, List.set_cons_zero, List.set_cons_succ]
        refine wpAnyH_take (i := 3) (v := ?v63) rfl (by kernel_rfl) (by kernel_rfl) (by kernel_rfl) (fun _ _ _ h => h) (Or.inl ⟨by rfl, ?y63⟩) (by assumption) ?r63
        case y63 => (intro w hSw; (try dsimp only at hSw); go_simp; try (with_reducible rfl))
        simp only [List.getElem_toArray, List.getElem_cons_succ, List.getElem_cons_zero, Act.put, List.setIfInBounds_toArray, List.set_cons_zero, List.set_cons_succ]
        refine wpAnyH_take (i := 4) (v := ?v64) rfl (by kernel_rfl) (by kernel_rfl) (by kernel_rfl) (fun _ _ _ h => h) (Or.inl ⟨by rfl, ?y64⟩) (by assumption) ?r64
        case y64 => (intro w hSw; (try dsimp only at hSw); go_simp; try (with_reducible rfl))
        simp only [List.getElem_toArray, List.getElem_cons_succ, List.getElem_cons_zero, Act.put, List.setIfInBounds_toArray, List.set_cons_zero, List.set_cons_succ]
        refine wpAnyH_take (i := 5) (v := ?v65) rfl (by kernel_rfl) (by kernel_rfl) (by kernel_rfl) (fun _ _ _ h => h) (Or.inl ⟨by rfl, ?y65⟩) (by assumption) ?r65
        case y65 => (intro w hSw; (try dsimp only at hSw); go_simp; try (with_reducible rfl))
        simp only [List.getElem_toArray, List.getElem_cons_succ, List.getElem_cons_zero, Act.put, List.setIfInBounds_toArray, List.set_cons_zero, List.set_cons_succ]
        refine wpAnyH_take (i := 6) (v := ?v66) rfl (by kernel_rfl) (by kernel_rfl) (by kernel_rfl) (fun _ _ _ h => h) (Or.inl ⟨by rfl, ?y66⟩) (by assumption) ?r66
        case y66 => (intro w hSw; (try dsimp only at hSw); go_simp; try (with_reducible rfl))
        simp only [List.getElem_toArray, List.getElem_cons_succ, List.getElem_cons_zero, Act.put, List.setIfInBounds_toArray, List.set_cons_zero, List.set_cons_succ]
        refine wpAnyH_take (i := 7) (v := ?v67) rfl (by kernel_rfl) (by kernel_rfl) (by kernel_rfl) (fun _ _ _ h => h) (Or.inl ⟨by rfl, ?y67⟩) (by assumption) ?r67
        case y67 => (intro w hSw; (try dsimp only at hSw); go_simp; try (with_reducible rfl))
        simp only [List.getElem_toArray, List.getElem_cons_succ, List.getElem_cons_zero, Act.put, List.setIfInBounds_toArray, List.set_cons_zero, List.set_cons_succ]
        refine wpAnyH_take (i := 8) (v := ?v68) rfl (by kernel_rfl) (by kernel_rfl) (by kernel_rfl) (fun _ _ _ h => h) (Or.inl ⟨by rfl, ?y68⟩) (by assumption) ?r68
        case y68 => (intro w hSw; (try dsimp only at hSw); go_simp; try (with_reducible rfl))
        simp only [List.getElem_toArray, List.getElem_cons_succ, List.getElem_cons_zero, Act.put, List.setIfInBounds_toArray, List.set_cons_zero, List.set_cons_succ]
        refine wpAnyH_ready (rs := [9]) (by kernel_rfl) (by simp) ?_
        refine AllReadyH.cons rfl (fun K hK => ?_) AllReadyH.nil
        simp only [List.getElem_toArray, List.getElem_cons_succ, List.getElem_cons_zero]
        go_simp
        go_at_call 73
        refine (CC.out _ hHeld.2).mono ?_
        rintro e w3 ⟨c, rfl, hc, hb⟩
        have hcn : ¬ c < 0 := fun h => HL.out (hc.1 h)
        dsimp only
        refine hK.out _ _ ?_ (fun hHeld => ?_)
        · exact keep2s (by assumption) hb
        clear hK K
        try simp only [Act.put, List.setIfInBounds_toArray, List.set_cons_zero, List.set_cons_succ]
        refine wpAnyH_take (i := 10) (v := ?v69) rfl (by kernel_rfl) (by kernel_rfl) (by kernel_rfl) (fun _ _ _ h => h) (Or.inl ⟨by rfl, ?y69⟩) (by assumption) ?r69
        case y69 => (intro w hSw; (try dsimp only at hSw); go_simp; try (with_reducible rfl))
        simp only [List.getElem_toArray, List.getElem_cons_succ, List.getElem_cons_zero, Act.put, List.setIfInBounds_toArray, List.set_cons_zero, List.set_cons_succ]
        refine wpAnyH_done (by kernel_rfl) ?_ _
        have HI3 := hide (HI.out.below hHeld.2)
        have HQ : Hid ((∀ q, m ≤ q → q < i → lt (gi L q) (gi L a)) ∧ ∀ q, h ≤ q → q < b → ¬ lt (gi L q) (gi L a)) := ⟨HP.out.1, fun q h1 h2 h3 => HL.out (by have := So.le (O := O) HB.out h q (by omega) h1 h2 _ h3; rw [HXY.out.1, HXY.out.2]; exact this)⟩
        clear hHeld k1 k2 hc CC HI
        go_wp2
        go_roundw
        case rel => exact ⟨i, h, rfl, by rw [HHE.out], hmi, by omega, by omega, HQ.out, HI3.out⟩
        case measure => have := HHE.out; simp [intOf]; omega
    · have hltI : ¬ (i : Int) < (j : Int) := by omega
      obtain ⟨ip, hip⟩ : ∃ ip, ip = i - 1 := ⟨_, rfl⟩
      have hw5 : IntKind.i64.wrap ((i : Int) - 1) = (ip : Int) := by rw [wrapN _ (by omega) (by omega)]; omega
      obtain rfl : i = j := by omega
      have HIP := hide hip
      have hip2 : a ≤ ip ∧ ip + 1 ≤ b := by omega
      clear hip
      go_wp2
      go_loopw [13] (fun kv wr => ∃ (k : Nat) (L2 : List Int), kv = .int .i64 k ∧ a ≤ k ∧ k ≤ ip ∧ RI w0 wr base g cap n L2 ∧ Hid (∀ t, gi L2 t = gi L (rot a (a + 1) (k + 1) t))) (fun kv _ => ip - (intOf kv).toNat)
      case atStart => exact ⟨a, L, rfl, Nat.le_refl _, hip2.1, HI.out, fun t => by rw [rot_none _ _ _ _ (by omega) (by omega) (.inr rfl)]⟩
      case round =>
        obtain ⟨k, L2, rfl, hak, hki, hI2, HK⟩ := hrel
        have HI := hide hI2
        clear hI2
        by_cases hk : k < ip
        · have hkI : (k : Int) < (ip : Int) := by omega
          obtain ⟨k1n, hk1⟩ : ∃ q, q = k + 1 := ⟨_, rfl⟩
          have hw6 : IntKind.i64.wrap ((k : Int) + 1) = (k1n : Int) := by rw [wrapN _ (by omega) (by omega)]; omega
          have q1 : (k : Int) < (n : Int) := by omega
          have q2 : (0 : Int) ≤ (k : Int) := by omega
          have q3 : (k1n : Int) < (n : Int) := by omega
          have q4 : (0 : Int) ≤ (k1n : Int) := by omega
          have HK1 := hide hk1
          have k1 := HI.out.cell k (by omega)
          have k2 := HI.out.cell k1n (by omega)
          have f1 := HI.out.fz k
          have f2 := HI.out.fz k1n
          obtain ⟨X, hX⟩ : ∃ x, x = gi L2 k := ⟨_, rfl⟩
          obtain ⟨Y, hY⟩ : ∃ y, y = gi L2 k1n := ⟨_, rfl⟩
          obtain ⟨u, k3⟩ : ∃ u, (wr.setCell ⟨g, k, none⟩ (.int .i64 Y)).cell? ⟨g, k1n, none⟩ = some u := by
            have := (HI.out.row.stored k (.int .i64 Y)).1.cellAt k1n (by omega)
            exact ⟨_, this.trans (List.getElem?_eq_getElem (by simp; have := HI.out.len; omega))⟩
          have HS := hide (HI.out.swap k k1n (by omega) (by omega) (by omega))
          rw [← hX, ← hY] at HS
          rw [← hX] at k1
          rw [← hY] at k2
          clear hX hY
          clear hk1
          have mixed : Try.prog.follows .mixedOrders = true := by kernel_rfl
          go_wp2_with fail
          go_big_region_o
          obtain ⟨W, hW⟩ : ∃ W, W = ((wr.setCell ⟨g, k, none⟩ (.int .i64 Y)).setCell ⟨g, k1n, none⟩ (.int .i64 X)).drew := ⟨_, rfl⟩
          have HNW := hide HS.out.1.drew
          rw [← hW] at HNW
          rw [← hW]
          clear hW k1 k2 k3 f1 f2
          go_wp2
          go_roundw
          case rel => exact ⟨k1n, _, rfl, by have := HK1.out; omega, by have := HK1.out; omega, HNW.out, fun t => by rw [HS.out.2, HK.out, HK1.out, rot_up a k t hak]⟩
          case measure => have := HK1.out; simp [intOf]; omega
        · have hkI : ¬ (k : Int) < (ip : Int) := by omega
          obtain rfl : k = ip := by omega
          go_wp2
          refine bodyPost_ret (v := .tuple #[]) (by simp [results, Try.f97, go_sem]) rfl ?_
          have hi1 : k + 1 = i := by have := HIP.out; omega
          rw [hi1] at HK
          exact ⟨rfl, L2, HI.out, (PO.rot (a := a) (m := a + 1) (b := i) (by omega) (by have := HONE.out; omega) HK.out).wide (Nat.le_refl _) (by omega), so_up O (by rw [← HONE.out]; exact HB.out) (by rw [← HONE.out]; exact HX.out) (by have := HONE.out; omega) (by omega) (fun q h1 h2 => HP.out.1 q (by have := HONE.out; omega) h2) HP.out.2 HK.out⟩
end Go.Proofs.Ytohcjafklfemfam.SrtI

namespace Go.Proofs.Ytohcjafklfemfam.SrtI
open Go.RowKit L1 Srt
set_option linter.unusedVariables false

set_option maxRecDepth 100000 in
set_option maxHeartbeats 4000000 in
theorem sym_last (w0 : World) (base g cap n : Nat) (pp : Addr) (lt : Int → Int → Prop) (tag : Int → Nat) (S : Int → Prop) (O : Ord lt tag) (hn : n ≤ 1048576) (hC : ∀ wx x y, Below g w0 wx → S x → S y → tag x < tag y → Calls Try.prog 73 #[.int .i64 y, .int .i64 x, .pointer (some pp)] wx fun e w' => ∃ c : Int, e = .returned (.int .i64 c) ∧ (c < 0 ↔ lt y x) ∧ Below wx.heap.size wx w') (w : World) (L : List Int) (a m b : Nat) (ham : a < m) (hmb : m < b) (hb : b ≤ n) (hone : b = m + 1) (hma : m ≠ a + 1) (hR : RI w0 w base g cap n L) (hS : ∀ t, t < n → S (gi L t)) (hA : So lt (gi L) a m) (hB : So lt (gi L) m b) (hX : Cr tag (gi L) a m b) :
    Calls Try.prog 97 #[.slice (some ⟨g, 0, none⟩) n cap, .int .i64 a, .int .i64 m, .int .i64 b, (.func (.func 73) #[] #[.pointer (some pp)])] w fun e w' => e = .returned (.tuple #[]) ∧ ∃ L', RI w0 w' base g cap n L' ∧ PO a b (gi L) (gi L') ∧ So lt (gi L') a b := by
  have HC := hide hC
  have HR := hide hR
  have HSS := hide hS
  have HA := hide hA
  have HB := hide hB
  have HX := hide hX
  clear hC hR hS hA hB hX
  have hw0 : IntKind.i64.wrap ((m : Int) - (a : Int)) = ((m - a : Nat) : Int) := by rw [wrapN _ (by omega) (by omega)]; omega
  have hne : (((m - a : Nat) : Int) == 1) = false := by simp; omega
  have hw9 : IntKind.i64.wrap ((b : Int) - (m : Int)) = 1 := by rw [wrapN _ (by omega) (by omega)]; omega
  have HONE := hide hone
  have hnb : m + 1 ≤ n := by omega
  clear hone hma
  go_enter Try.func97, Try.ntmps97
  go_wp2
  go_loopw [14, 15] (fun iv jv wr => ∃ i j : Nat, iv = .int .i64 i ∧ jv = .int .i64 j ∧ a ≤ i ∧ i ≤ j ∧ j ≤ m ∧ Hid ((∀ h, a ≤ h → h < i → ¬ lt (gi L m) (gi L h)) ∧ ∀ h, j ≤ h → h < m → lt (gi L m) (gi L h)) ∧ RI w0 wr base g cap n L) (fun iv jv _ => (intOf jv).toNat - (intOf iv).toNat)
  case atStart => exact ⟨a, m, rfl, rfl, Nat.le_refl _, by omega, Nat.le_refl _, ⟨fun h h1 h2 => by omega, fun h h1 h2 => by omega⟩, HR.out⟩
  case round =>
    obtain ⟨i, j, rfl, rfl, hmi, hij, hjb, HP, hI⟩ := hrel
    have HI := hide hI
    clear hI
    by_cases hlt : i < j
    · have hltI : (i : Int) < (j : Int) := by omega
      obtain ⟨h, hh⟩ : ∃ h, h = (i + j) / 2 := ⟨_, rfl⟩
      have hw1 : IntKind.i64.wrap ((i : Int) + (j : Int)) = (i : Int) + (j : Int) := wrapN _ (by omega) (by omega)
      have hhe : ((i : Int) + (j : Int)) / 2 = (h : Int) := by omega
      have hhI : ((i : Int) + (j : Int)) / 2 < (n : Int) := by omega
      have hh0 : (0 : Int) ≤ ((i : Int) + (j : Int)) / 2 := by omega
      have hht : (((i : Int) + (j : Int)) / 2).toNat = h := by omega
      have hh1 : IntKind.i64.wrap (((i : Int) + (j : Int)) / 2 + 1) = ((h + 1 : Nat) : Int) := by rw [wrapN _ (by omega) (by omega)]; omega
      have HHE := hide hhe
      have hih : i ≤ h ∧ h < j := by omega
      clear hhe
      have hmI : (m : Int) < (n : Int) := by omega
      have hm0 : (0 : Int) ≤ (m : Int) := by omega
      have htg : tag (gi L h) < tag (gi L m) := HX.out h m (by omega) (by omega) (Nat.le_refl _) (by have := HONE.out; omega)
      clear hh
      have CC := hide (fun wx (hb : Below wr.heap.size wr wx) => HC.out wx (gi L h) (gi L m) (HI.out.bel.trans (hb.mono (Nat.le_of_lt HI.out.lt))) (HSS.out h (by omega)) (HSS.out m (by omega)) htg)
      have k1 := HI.out.cell m (by omega)
      have k2 := HI.out.cell h (by omega)
      obtain ⟨x, hx⟩ : ∃ x, x = gi L m := ⟨_, rfl⟩
      obtain ⟨y, hy⟩ : ∃ y, y = gi L h := ⟨_, rfl⟩
      rw [← hx, ← hy] at CC
      rw [← hx] at k1
      rw [← hy] at k2
      have HXY : Hid (x = gi L m ∧ y = gi L h) := ⟨hx, hy⟩
      clear hx hy htg
      by_cases hl : lt x y
      · have HL := hide hl
        clear hl
        go_wp2
        refine wp_region_held_drew (S := fun wx => (wx.cell? ⟨g, m, none⟩ = some (.int .i64 x) ∧ wx.cell? ⟨g, h, none⟩ = some (.int .i64 y)) ∧ Below wr.heap.size wr wx) (by kernel_rfl) ⟨⟨k1, k2⟩, (Below.refl _ _).drew⟩ (fun hHeld => ?_)
        refine wpAnyH_take (i := 0) (v := ?v70) rfl (by kernel_rfl) (by kernel_rfl) (by kernel_rfl) (fun _ _ _ h => h) (Or.inl ⟨by rfl, ?y70⟩) (by assumption) ?r70
        case y70 => (intro w hSw; (try dsimp only at hSw); go_simp; try (with_reducible rfl))
        simp only [List.getElem_toArray, List.getElem_cons_zero, Act.put, List.setIfInBounds_toArray, List.set_cons_zero, List.set_cons_succ]
        refine wpAnyH_take (i := 1) (v := ?v71) rfl (by kernel_rfl) (by kernel_rfl) (by kernel_rfl) (fun _ _ _ h => h) (Or.inl ⟨by rfl, ?y71⟩) (by assumption) ?r71
        case y71 => (intro w hSw; (try dsimp only at hSw); go_simp; try (with_reducible rfl))
        simp only [List.getElem_toArray, List.getElem_cons_succ, List.getElem_cons_zero, Act.put, List.setIfInBounds_toArray, List.set_cons_zero, List.set_cons_succ]
        refine wpAnyH_take (i := 2) (v := ?v72) rfl (by kernel_rfl) (by kernel_rfl) (by kernel_rfl) (fun _ _ _ h => h) (Or.inl ⟨by rfl, ?y72⟩) (by assumption) ?r72
        case y72 => (intro w hSw; (try dsimp only at hSw); go_simp; try (with_reducible rfl))
        simp only [List.getElem_toArray, List.getElem_cons_succ, List.getElem_cons_zero, Act.put, List.setIfInBounds_toArray, List.set_cons_zero, List.set_cons_succ]
        refine wpAnyH_take (i := 3) (v := ?v73) rfl (by kernel_rfl) (by kernel_rfl) (by kernel_rfl) (fun _ _ _ h => h) (Or.inl ⟨by rfl, ?y73⟩) (by assumption) ?r73
        case y73 => (intro w hSw; (try dsimp only at hSw); go_simp; try (with_reducible rfl))
        simp only [List.getElem_toArray, List.getElem_cons_succ, List.getElem_cons_zero, Act.put, List.setIfInBounds_toArray, List.set_cons_zero, List.set_cons_succ]
        refine wpAnyH_take (i := 4) (v := ?v74) rfl (by kernel_rfl) (by kernel_rfl) (by kernel_rfl) (fun _ _ _ h => h) (Or.inl ⟨by rfl, ?y74⟩) (by assumption) ?r74
        case y74 => (intro w hSw; (try dsimp only at hSw); go_simp; try (with_reducible rfl))
        simp only [List.getElem_toArray, List.getElem_cons_succ, List.getElem_cons_zero, Act.put, List.setIfInBounds_toArray, List.set_cons_zero, List.set_cons_succ]
        refine wpAnyH_take (i := 5) (v := ?v75) rfl (by kernel_rfl) (by kernel_rfl) (by kernel_rfl) (fun _ _ _ h => h) (Or.inl ⟨by rfl, ?y75⟩) (by assumption) ?r75
        case y75 => (intro w hSw; (try dsimp only at hSw); go_simp; try (with_reducible rfl))
        simp only [List.getElem_toArray, List.getElem_cons_succ, List.getElem_cons_zero, Act.put, List.setIfInBounds_toArray, List.set_cons_zero, List.set_cons_succ]
        refine wpAnyH_take (i := 6) (v := ?v76) rfl (by kernel_rfl) (by kernel_rfl) (by kernel_rfl) (fun _ _ _ h => h) (Or.inl ⟨by rfl, ?y76⟩) (by assumption) ?r76
        case y76 => (intro w hSw; (try dsimp only at hSw); go_simp; try (with_reducible rfl))
        simp only [List.getElem_toArray, List.getElem_cons_succ, List.getElem_cons_zero, Act.put, List.setIfInBounds_toArray, List.set_cons_zero, List.set_cons_succ]
        refine wpAnyH_take (i := 7) (v := ?v77) rfl (by kernel_rfl) (by kernel_rfl) (by kernel_rfl) (fun _ _ _ h => h) (Or.inl ⟨by rfl, ?y77⟩) (by assumption) ?r77
        case y77 => (intro w hSw; (try dsimp only at hSw); go_simp; try (with_reducible rfl))
        simp only [List.getElem_toArray, List.getElem_cons_succ, List.getElem_cons_zero, Act.put, List.setIfInBounds_toArray, List.set_cons_zero, List.set_cons_succ]
        refine wpAnyH_take (i := 8) (v := ?v78) rfl (by kernel_rfl) (by kernel_rfl) (by kernel_rfl) (fun _ _ _ h => h) (Or.inl ⟨by rfl, ?y78⟩) (by assumption) ?r78
        case y78 => (intro w hSw; (try dsimp only at hSw); go_simp; try (with_reducible rfl))
        simp only [List.getElem_toArray, List.getElem_cons_succ, List.getElem_cons_zero, Act.put, List.setIfInBounds_toArray, List.set_cons_zero, List.set_cons_succ]
        refine wpAnyH_ready (rs := [9]) (by kernel_rfl) (by simp) ?_
        refine AllReadyH.cons rfl (fun K hK => ?_) AllReadyH.nil
        simp only [List.getElem_toArray, List.getElem_cons_succ, List.getElem_cons_zero]
        go_simp
        go_at_call 73
        refine (CC.out _ hHeld.2).mono ?_
        rintro e w3 ⟨c, rfl, hc, hb⟩
        have hcn : c < 0 := hc.2 HL.out; have hcn2 : (!decide (c < 0)) = false := by simp [hcn]
        dsimp only
        refine hK.out _ _ ?_ (fun hHeld => ?_)
        · exact keep2s (by assumption) hb
        clear hK K
        try simp only [Act.put, List.setIfInBounds_toArray, List.set_cons_zero, List.set_cons_succ]
        refine wpAnyH_take (i := 10) (v := ?v79) rfl (by kernel_rfl) (by kernel_rfl) (by kernel_rfl) (fun _ _ _ h => h) (Or.inl ⟨by rfl, ?y79⟩) (by assumption) ?r79
        case y79 => (intro w hSw; (try dsimp only at hSw); go_simp; try (with_reducible rfl))
        simp only [List.getElem_toArray, List.getElem_cons_succ, List.getElem_cons_zero, Act.put, List.setIfInBounds_toArray, List.set_cons_zero, List.set_cons_succ]
        refine wpAnyH_take (i := 11) (v := ?v80) rfl (by kernel_rfl) (by kernel_rfl) (by kernel_rfl) (fun _ _ _ h => h) (Or.inl ⟨by rfl, ?y80⟩) (by assumption) ?r80
        case y80 => (intro w hSw; (try dsimp only at hSw); go_simp; try (with_reducible rfl))
        simp only [List.getElem_toArray, List.getElem_cons_succ, List.getElem_cons_zero, Act.put, List.setIfInBounds_toArray, List.set_cons_zero, List.set_cons_succ]
        refine wpAnyH_done (by kernel_rfl) ?_ _
        have HI3 := hide (HI.out.below hHeld.2)
        have HQ : Hid ((∀ q, a ≤ q → q < i → ¬ lt (gi L m) (gi L q)) ∧ ∀ q, h ≤ q → q < m → lt (gi L m) (gi L q)) := ⟨HP.out.1, fun q h1 h2 => So.ge (O := O) HA.out h q (by omega) h1 h2 _ (by have := HL.out; rw [HXY.out.1, HXY.out.2] at this; exact this)⟩
        clear hHeld k1 k2 hc CC HI
        go_wp2
        go_roundw
        case rel => exact ⟨i, h, rfl, by rw [HHE.out], hmi, by omega, by omega, HQ.out, HI3.out⟩
        case measure => have := HHE.out; simp [intOf]; omega
      · have HL := hide hl
        clear hl
        go_wp2
        refine wp_region_held_drew (S := fun wx => (wx.cell? ⟨g, m, none⟩ = some (.int .i64 x) ∧ wx.cell? ⟨g, h, none⟩ = some (.int .i64 y)) ∧ Below wr.heap.size wr wx) (by kernel_rfl) ⟨⟨k1, k2⟩, (Below.refl _ _).drew⟩ (fun hHeld => ?_)
        refine wpAnyH_take (i := 0) (v := ?v81) rfl (by kernel_rfl) (by kernel_rfl) (by kernel_rfl) (fun _ _ _ h => h) (Or.inl ⟨by rfl, ?y81⟩) (by assumption) ?r81
        case y81 => (intro w hSw; (try dsimp only at hSw); go_simp; try (with_reducible rfl))
        simp only [List.getElem_toArray, List.getElem_cons_zero, Act.put, List.setIfInBounds_toArray, List.set_cons_zero, List.set_cons_succ]
        refine wpAnyH_take (i := 1) (v := ?v82) rfl (by kernel_rfl) (by kernel_rfl) (by kernel_rfl) (fun _ _ _ h => h) (Or.inl ⟨by rfl, ?y82⟩) (by assumption) ?r82
        case y82 => (intro w hSw; (try dsimp only at hSw); go_simp; try (with_reducible rfl))
        simp only [List.getElem_toArray, List.getElem_cons_succ, List.getElem_cons_zero, Act.put, List.setIfInBounds_toArray, List.set_cons_zero, List.set_cons_succ]
        refine wpAnyH_take (i := 2) (v := ?v83) rfl (by kernel_rfl) (by kernel_rfl) (by kernel_rfl) (fun _ _ _ h => h) (Or.inl ⟨by rfl, ?y83⟩) (by assumption) ?r83
        case y83 => (intro w hSw; (try dsimp only at hSw); go_simp; try (with_reducible rfl))
        simp only [List.getElem_toArray, List.getElem_cons_succ, List.getElem_cons_zero, Act.put, List.setIfInBounds_toArray, List.set_cons_zero, List.set_cons_succ]
        refine wpAnyH_take (i := 3) (v := ?v84) rfl (by kernel_rfl) (by kernel_rfl) (by kernel_rfl) (fun _ _ _ h => h) (Or.inl ⟨by rfl, ?y84⟩) (by assumption) ?r84
        case y84 => (intro w hSw; (try dsimp only at hSw); go_simp; try (with_reducible rfl))
        simp only [List.getElem_toArray, List.getElem_cons_succ, List.getElem_cons_zero, Act.put, List.setIfInBounds_toArray, List.set_cons_zero, List.set_cons_succ]
        refine wpAnyH_take (i := 4) (v := ?v85) rfl (by kernel_rfl) (by kernel_rfl) (by kernel_rfl) (fun _ _ _ h => h) (Or.inl ⟨by rfl, ?y85⟩) (by assumption) ?r85
        case y85 => (intro w hSw; (try dsimp only at hSw); go_simp; try (with_reducible rfl))
        simp only [List.getElem_toArray, List.getElem_cons_succ, List.getElem_cons_zero, Act.put, List.setIfInBounds_toArray, List.set_cons_zero, List.set_cons_succ]
        refine wpAnyH_take (i := 5) (v := ?v86) rfl (by kernel_rfl) (by kernel_rfl) (by kernel_rfl) (fun _ _ _ h => h) (Or.inl ⟨by rfl, ?y86⟩) (by assumption) ?r86
        case y86 => (intro w hSw; (try dsimp only at hSw); go_simp; try (with_reducible rfl))
        simp only [List.getElem_toArray, List.getElem_cons_succ, List.getElem_cons_zero, Act.put, List.setIfInBounds_toArray, List.set_cons_zero, List.set_cons_succ]
        refine wpAnyH_take (i := 6) (v := ?v87) rfl (by kernel_rfl) (by kernel_rfl) (by kernel_rfl) (fun _ _ _ h => h) (Or.inl ⟨by rfl, ?y87⟩) (by assumption) ?r87
        case y87 => (intro w hSw; (try dsimp only at hSw); go_simp; try (with_reducible rfl))
        simp only [List.getElem_toArray, List.getElem_cons_succ, List.getElem_cons_zero, Act.put, List.setIfInBounds_toArray, List.set_cons_zero, List.set_cons_succ]
        refine wpAnyH_take (i := 7) (v := ?v88) rfl (by kernel_rfl) (by kernel_rfl) (by kernel_rfl) (fun _ _ _ h => h) (Or.inl ⟨by rfl, ?y88⟩) (by assumption) ?r88
        case y88 => (intro w hSw; (try dsimp only at hSw); go_simp; try (with_reducible rfl))
        simp only [List.getElem_toArray, List.getElem_cons_succ, List.getElem_cons_zero, Act.put, List.setIfInBounds_toArray, List.set_cons_zero, List.set_cons_succ]
        refine wpAnyH_take (i := 8) (v := ?v89) rfl (by kernel_rfl) (by kernel_rfl) (by kernel_rfl) (fun _ _ _ h => h) (Or.inl ⟨by rfl, ?y89⟩) (by assumption) ?r89
        case y89 => (intro w hSw; (try dsimp only at hSw); go_simp; try (with_reducible rfl))
        simp only [List.getElem_toArray, List.getElem_cons_succ, List.getElem_cons_zero, Act.put, List.setIfInBounds_toArray, List.set_cons_zero, List.set_cons_succ]
        refine wpAnyH_ready (rs := [9]) (by kernel_rfl) (by simp) ?_
        refine AllReadyH.cons rfl (fun K hK => ?_) AllReadyH.nil
        simp only [List.getElem_toArray, List.getElem_cons_succ, List.getElem_cons_zero]
        go_simp
        go_at_call 73
        refine (CC.out _ hHeld.2).mono ?_
        rintro e w3 ⟨c, rfl, hc, hb⟩
        have hcn : ¬ c < 0 := fun h => HL.out (hc.1 h); have hcn2 : (!decide (c < 0)) = true := by simp [hcn]
        dsimp only
        refine hK.out _ _ ?_ (fun hHeld => ?_)
        · exact keep2s (by assumption) hb
        clear hK K
        try simp only [Act.put, List.setIfInBounds_toArray, List.set_cons_zero, List.set_cons_succ]
        refine wpAnyH_take (i := 10) (v := ?v90) rfl (by kernel_rfl) (by kernel_rfl) (by kernel_rfl) (fun _ _ _ h => h) (Or.inl ⟨by rfl, ?y90⟩) (by assumption) ?r90
        case y90 => (intro w hSw; (try dsimp only at hSw); go_simp; try (with_reducible rfl))
        simp only [List.getElem_toArray, List.getElem_cons_succ, List.getElem_cons_zero, Act.put, List.setIfInBounds_toArray, List.set_cons_zero, List.set_cons_succ]
        refine wpAnyH_take (i := 11) (v := ?v91) rfl (by kernel_rfl) (by kernel_rfl) (by kernel_rfl) (fun _ _ _ h => h) (Or.inl ⟨by rfl, ?y91⟩) (by assumption) ?r91
        case y91 => (intro w hSw; (try dsimp only at hSw); go_simp; try (with_reducible rfl))
        simp only [List.getElem_toArray, List.getElem_cons_succ, List.getElem_cons_zero, Act.put, List.setIfInBounds_toArray, List.set_cons_zero, List.set_cons_succ]
        refine wpAnyH_done (by kernel_rfl) ?_ _
        have HI3 := hide (HI.out.below hHeld.2)
        have HQ : Hid ((∀ q, a ≤ q → q < h + 1 → ¬ lt (gi L m) (gi L q)) ∧ ∀ q, j ≤ q → q < m → lt (gi L m) (gi L q)) := ⟨fun q h1 h2 h3 => HL.out (by have := So.ge (O := O) HA.out q h h1 (by omega) (by omega) _ h3; rw [HXY.out.1, HXY.out.2]; exact this), HP.out.2⟩
        clear hHeld k1 k2 hc CC HI
        go_wp2
        go_roundw
        case rel => exact ⟨h + 1, j, by first | rfl | go_num, rfl, by omega, by omega, hjb, HQ.out, HI3.out⟩
        case measure => have := HHE.out; simp [intOf]; omega
    · have hltI : ¬ (i : Int) < (j : Int) := by omega
      obtain rfl : i = j := by omega
      go_wp2
      go_loopw [17] (fun kv wr => ∃ (k : Nat) (L2 : List Int), kv = .int .i64 k ∧ i ≤ k ∧ k ≤ m ∧ RI w0 wr base g cap n L2 ∧ Hid (∀ t, gi L2 t = gi L (rot k m (m + 1) t))) (fun kv _ => (intOf kv).toNat)
      case atStart => exact ⟨m, L, rfl, hjb, Nat.le_refl _, HI.out, fun t => by rw [rot_none _ _ _ _ (by omega) (by omega) (.inl rfl)]⟩
      case round =>
        obtain ⟨k, L2, rfl, hak, hki, hI2, HK⟩ := hrel
        have HI := hide hI2
        clear hI2
        by_cases hk : i < k
        · have hkI : (i : Int) < (k : Int) := by omega
          obtain ⟨k1n, hk1⟩ : ∃ q, q = k - 1 := ⟨_, rfl⟩
          have hw6 : IntKind.i64.wrap ((k : Int) - 1) = (k1n : Int) := by rw [wrapN _ (by omega) (by omega)]; omega
          have q1 : (k : Int) < (n : Int) := by omega
          have q2 : (0 : Int) ≤ (k : Int) := by omega
          have q3 : (k1n : Int) < (n : Int) := by omega
          have q4 : (0 : Int) ≤ (k1n : Int) := by omega
          have HK1 : Hid (k = k1n + 1) := by show k = _; omega
          have k1 := HI.out.cell k (by omega)
          have k2 := HI.out.cell k1n (by omega)
          have f1 := HI.out.fz k
          have f2 := HI.out.fz k1n
          obtain ⟨X, hX⟩ : ∃ x, x = gi L2 k := ⟨_, rfl⟩
          obtain ⟨Y, hY⟩ : ∃ y, y = gi L2 k1n := ⟨_, rfl⟩
          obtain ⟨u, k3⟩ : ∃ u, (wr.setCell ⟨g, k, none⟩ (.int .i64 Y)).cell? ⟨g, k1n, none⟩ = some u := by
            have := (HI.out.row.stored k (.int .i64 Y)).1.cellAt k1n (by omega)
            exact ⟨_, this.trans (List.getElem?_eq_getElem (by simp; have := HI.out.len; omega))⟩
          have HS := hide (HI.out.swap k k1n (by omega) (by omega) (by omega))
          rw [← hX, ← hY] at HS
          rw [← hX] at k1
          rw [← hY] at k2
          clear hX hY
          clear hk1
          have mixed : Try.prog.follows .mixedOrders = true := by kernel_rfl
          go_wp2_with fail
          go_big_region_o
          obtain ⟨W, hW⟩ : ∃ W, W = ((wr.setCell ⟨g, k, none⟩ (.int .i64 Y)).setCell ⟨g, k1n, none⟩ (.int .i64 X)).drew := ⟨_, rfl⟩
          have HNW := hide HS.out.1.drew
          rw [← hW] at HNW
          rw [← hW]
          clear hW k1 k2 k3 f1 f2
          go_wp2
          go_roundw
          case rel => exact ⟨k1n, _, rfl, by have := HK1.out; omega, by have := HK1.out; omega, HNW.out, fun t => by rw [HS.out.2, HK.out, exch_comm, HK1.out, rot_down k1n m t (by have := HK1.out; omega)]⟩
          case measure => have := HK1.out; simp [intOf]; omega
        · have hkI : ¬ (i : Int) < (k : Int) := by omega
          obtain rfl : i = k := by omega
          go_wp2
          refine bodyPost_ret (v := .tuple #[]) (by simp [results, Try.f97, go_sem]) rfl ?_
          have hb2 := HONE.out
          exact ⟨rfl, L2, HI.out, by rw [hb2]; exact (PO.rot (by omega) (by omega) HK.out).wide hmi (Nat.le_refl _), by rw [hb2]; exact so_down O HA.out (by rw [← hb2]; exact HX.out) hmi (by omega) HP.out.1 HP.out.2 HK.out⟩
end Go.Proofs.Ytohcjafklfemfam.SrtI

namespace Go.Proofs.Ytohcjafklfemfam.SrtI
open Go.RowKit L1 Srt
set_option linter.unusedVariables false

set_option maxRecDepth 100000 in
set_option maxHeartbeats 8000000 in
theorem sym_big (w0 : World) (base g cap n : Nat) (pp : Addr) (lt : Int → Int → Prop) (tag : Int → Nat) (S : Int → Prop) (O : Ord lt tag) (hn : n ≤ 1048576) (hC : ∀ wx x y, Below g w0 wx → S x → S y → tag x < tag y → Calls Try.prog 73 #[.int .i64 y, .int .i64 x, .pointer (some pp)] wx fun e w' => ∃ c : Int, e = .returned (.int .i64 c) ∧ (c < 0 ↔ lt y x) ∧ Below wx.heap.size wx w') (w : World) (L : List Int) (a m b : Nat) (ham : a < m) (hmb : m < b) (hb : b ≤ n) (hma : m ≠ a + 1) (hmb1 : b ≠ m + 1) (hbg : (a + b) / 2 < m) (hIH : ∀ (w : World) (L : List Int) (p q r : Nat), r - p < b - a → p < q → q < r → r ≤ n → RI w0 w base g cap n L → (∀ t, t < n → S (gi L t)) → So lt (gi L) p q → So lt (gi L) q r → Cr tag (gi L) p q r → Calls Try.prog 97 #[.slice (some ⟨g, 0, none⟩) n cap, .int .i64 p, .int .i64 q, .int .i64 r, (.func (.func 73) #[] #[.pointer (some pp)])] w fun e w' => e = .returned (.tuple #[]) ∧ ∃ L', RI w0 w' base g cap n L' ∧ PO p r (gi L) (gi L') ∧ So lt (gi L') p r) (hR : RI w0 w base g cap n L) (hS : ∀ t, t < n → S (gi L t)) (hA : So lt (gi L) a m) (hB : So lt (gi L) m b) (hX : Cr tag (gi L) a m b) :
    Calls Try.prog 97 #[.slice (some ⟨g, 0, none⟩) n cap, .int .i64 a, .int .i64 m, .int .i64 b, (.func (.func 73) #[] #[.pointer (some pp)])] w fun e w' => e = .returned (.tuple #[]) ∧ ∃ L', RI w0 w' base g cap n L' ∧ PO a b (gi L) (gi L') ∧ So lt (gi L') a b := by
  have HC := hide hC
  have HR := hide hR
  have HSS := hide hS
  have HA := hide hA
  have HB := hide hB
  have HX := hide hX
  clear hC hR hS hA hB hX
  have IH := hide hIH
  have hw0 : IntKind.i64.wrap ((m : Int) - (a : Int)) = ((m - a : Nat) : Int) := by rw [wrapN _ (by omega) (by omega)]; omega
  have hne : (((m - a : Nat) : Int) == 1) = false := by simp; omega
  have hw9 : IntKind.i64.wrap ((b : Int) - (m : Int)) = ((b - m : Nat) : Int) := by rw [wrapN _ (by omega) (by omega)]; omega
  have hne9 : (((b - m : Nat) : Int) == 1) = false := by simp; omega
  obtain ⟨md, hmd⟩ : ∃ q, q = (a + b) / 2 := ⟨_, rfl⟩
  have hwab : IntKind.i64.wrap ((a : Int) + (b : Int)) = (a : Int) + (b : Int) := wrapN _ (by omega) (by omega)
  have hmi : ((a : Int) + (b : Int)) / 2 = (md : Int) := by omega
  have HMD := hide hmi
  have hmab : a ≤ md ∧ md < b ∧ 2 * md ≤ a + b ∧ a + b ≤ 2 * md + 1 := by omega
  obtain ⟨nn, hnn⟩ : ∃ q, q = md + m := ⟨_, rfl⟩
  have hwn : IntKind.i64.wrap ((md : Int) + (m : Int)) = (nn : Int) := by rw [wrapN _ (by omega) (by omega)]; omega
  obtain ⟨pq, hpq⟩ : ∃ q, q = nn - 1 := ⟨_, rfl⟩
  have hwq : IntKind.i64.wrap ((nn : Int) - 1) = (pq : Int) := by rw [wrapN _ (by omega) (by omega)]; omega
  have hmm : md < m := by omega
  clear hma hmb1 hIH hmi hmd hbg
  go_enter Try.func97, Try.ntmps97
  go_upto_region 25 with fail
  rw [HMD.out]
  have hbI : (md : Int) < (m : Int) := by omega
  obtain ⟨s0, hs0⟩ : ∃ q, q = nn - b := ⟨_, rfl⟩
  have hws : IntKind.i64.wrap ((nn : Int) - (b : Int)) = (s0 : Int) := by rw [wrapN _ (by omega) (by omega)]; omega
  have hnpq : (nn ≤ md + m ∧ md + m ≤ nn) ∧ (pq + 1 ≤ nn ∧ nn ≤ pq + 1) ∧ (s0 + b ≤ nn ∧ nn ≤ s0 + b) := by omega
  clear hnn hpq hs0
  go_wp2
  go_loopw [20, 21] (fun sv rv wr => ∃ s r : Nat, sv = .int .i64 s ∧ rv = .int .i64 r ∧ s0 ≤ s ∧ s ≤ r ∧ r ≤ md ∧ Hid ((s0 < s → lt (gi L (s - 1)) (gi L (nn - s))) ∧ (r < md → lt (gi L (pq - r)) (gi L r))) ∧ RI w0 wr base g cap n L) (fun sv rv _ => (intOf rv).toNat - (intOf sv).toNat)
  case atStart => exact ⟨s0, md, rfl, rfl, Nat.le_refl _, by omega, Nat.le_refl _, ⟨fun h => absurd h (Nat.lt_irrefl _), fun h => absurd h (Nat.lt_irrefl _)⟩, HR.out⟩
  case round =>
    obtain ⟨s, r, rfl, rfl, hms, hsr, hrr, HP, hI⟩ := hrel
    have HI := hide hI
    clear hI
    by_cases hlt : s < r
    · have hltI : (s : Int) < (r : Int) := by omega
      obtain ⟨h, hh⟩ : ∃ h, h = (s + r) / 2 := ⟨_, rfl⟩
      have hw1 : IntKind.i64.wrap ((s : Int) + (r : Int)) = (s : Int) + (r : Int) := wrapN _ (by omega) (by omega)
      have hhe : ((s : Int) + (r : Int)) / 2 = (h : Int) := by omega
      have hhI : ((s : Int) + (r : Int)) / 2 < (n : Int) := by omega
      have hh0 : (0 : Int) ≤ ((s : Int) + (r : Int)) / 2 := by omega
      have hht : (((s : Int) + (r : Int)) / 2).toNat = h := by omega
      have hh1 : IntKind.i64.wrap (((s : Int) + (r : Int)) / 2 + 1) = ((h + 1 : Nat) : Int) := by rw [wrapN _ (by omega) (by omega)]; omega
      have HHE := hide hhe
      have hih : s ≤ h ∧ h < r := by omega
      clear hhe
      obtain ⟨pc, hpc⟩ : ∃ q, q = pq - h := ⟨_, rfl⟩
      have hwp : IntKind.i64.wrap ((pq : Int) - ((s : Int) + (r : Int)) / 2) = (pc : Int) := by rw [wrapN _ (by omega) (by omega)]; omega
      have hpI : (pc : Int) < (n : Int) := by omega
      have hp0 : (0 : Int) ≤ (pc : Int) := by omega
      have hpcb : m ≤ pc ∧ pc < b ∧ a ≤ h ∧ h < m := by omega
      have HNH : Hid (nn - (h + 1) = pc) := by show _ = _; omega
      have HPC := hide hpc
      have htg : tag (gi L h) < tag (gi L pc) := HX.out h pc (by omega) (by omega) (by omega) (by omega)
      clear hh hpc
      have CC := hide (fun wx (hb : Below wr.heap.size wr wx) => HC.out wx (gi L h) (gi L pc) (HI.out.bel.trans (hb.mono (Nat.le_of_lt HI.out.lt))) (HSS.out h (by omega)) (HSS.out pc (by omega)) htg)
      have k1 := HI.out.cell pc (by omega)
      have k2 := HI.out.cell h (by omega)
      obtain ⟨x, hx⟩ : ∃ x, x = gi L pc := ⟨_, rfl⟩
      obtain ⟨y, hy⟩ : ∃ y, y = gi L h := ⟨_, rfl⟩
      rw [← hx, ← hy] at CC
      rw [← hx] at k1
      rw [← hy] at k2
      have HXY : Hid (x = gi L pc ∧ y = gi L h) := ⟨hx, hy⟩
      clear hx hy htg
      by_cases hl : lt x y
      · have HL := hide hl
        clear hl
        go_wp2
        refine wp_region_held_drew (S := fun wx => (wx.cell? ⟨g, pc, none⟩ = some (.int .i64 x) ∧ wx.cell? ⟨g, h, none⟩ = some (.int .i64 y)) ∧ Below wr.heap.size wr wx) (by kernel_rfl) ⟨⟨k1, k2⟩, (Below.refl _ _).drew⟩ (fun hHeld => ?_)
        refine wpAnyH_take (i := 0) (v := ?v92) rfl (by kernel_rfl) (by kernel_rfl) (by kernel_rfl) (fun _ _ _ h => h) (Or.inl ⟨by rfl, ?y92⟩) (by assumption) ?r92
        case y92 => (intro w hSw; (try dsimp only at hSw); go_simp; try (with_reducible rfl))
        simp only [List.getElem_toArray, List.getElem_cons_zero, Act.put, List.setIfInBounds_toArray, List.set_cons_zero, List.set_cons_succ]
        refine wpAnyH_take (i := 1) (v := ?v93) rfl (by kernel_rfl) (by kernel_rfl) (by kernel_rfl) (fun _ _ _ h => h) (Or.inl ⟨by rfl, ?y93⟩) (by assumption) ?r93
        case y93 => (intro w hSw; (try dsimp only at hSw); go_simp; try (with_reducible rfl))
        simp only [List.getElem_toArray, List.getElem_cons_succ, List.getElem_cons_zero, Act.put, List.setIfInBounds_toArray, List.set_cons_zero, List.set_cons_succ]
        refine wpAnyH_take (i := 2) (v := ?v94) rfl (by kernel_rfl) (by kernel_rfl) (by kernel_rfl) (fun _ _ _ h => h) (Or.inl ⟨by rfl, ?y94⟩) (by assumption) ?r94
        case y94 => (intro w hSw; (try dsimp only at hSw); go_simp; try (with_reducible rfl))
        simp only [List.getElem_toArray, List.getElem_cons_succ, List.getElem_cons_zero, Act.put, List.setIfInBounds_toArray, List.set_cons_zero, List.set_cons_succ]
        refine wpAnyH_take (i := 3) (v := ?v95) rfl (by kernel_rfl) (by kernel_rfl) (by kernel_rfl) (fun _ _ _ h => h) (Or.inl ⟨by rfl, ?y95⟩) (by assumption) ?r95
        case y95 => (intro w hSw; (try dsimp only at hSw); go_simp; try (with_reducible rfl))
        simp only [List.getElem_toArray, List.getElem_cons_succ, List.getElem_cons_zero, Act.put, List.setIfInBounds_toArray, List.set_cons_zero, List.set_cons_succ]
        refine wpAnyH_take (i := 4) (v := ?v96) rfl (by kernel_rfl) (by kernel_rfl) (by kernel_rfl) (fun _ _ _ h => h) (Or.inl ⟨by rfl, ?y96⟩) (by assumption) ?r96
        case y96 => (intro w hSw; (try dsimp only at hSw); go_simp; try (with_reducible rfl))
        simp only [List.getElem_toArray, List.getElem_cons_succ, List.getElem_cons_zero, Act.put, List.setIfInBounds_toArray, List.set_cons_zero, List.set_cons_succ]
        refine wpAnyH_take (i := 5) (v := ?v97) rfl (by kernel_rfl) (by kernel_rfl) (by kernel_rfl) (fun _ _ _ h => h) (Or.inl ⟨by rfl, ?y97⟩) (by assumption) ?r97
        case y97 => (intro w hSw; (try dsimp only at hSw); go_simp; try (with_reducible rfl))
        simp only [List.getElem_toArray, List.getElem_cons_succ, List.getElem_cons_zero, Act.put, List.setIfInBounds_toArray, List.set_cons_zero, List.set_cons_succ]
        refine wpAnyH_take (i := 6) (v := ?v98) rfl (by kernel_rfl) (by kernel_rfl) (by kernel_rfl) (fun _ _ _ h => h) (Or.inl ⟨by rfl, ?y98⟩) (by assumption) ?r98
        case y98 => (intro w hSw; (try dsimp only at hSw); go_simp; try (with_reducible rfl))
        simp only [List.getElem_toArray, List.getElem_cons_succ, List.getElem_cons_zero, Act.put, List.setIfInBounds_toArray, List.set_cons_zero, List.set_cons_succ]
        refine wpAnyH_take (i := 7) (v := ?v99) rfl (by kernel_rfl) (by kernel_rfl) (by kernel_rfl) (fun _ _ _ h => h) (Or.inl ⟨by rfl, ?y99⟩) (by assumption) ?r99
        case y99 => (intro w hSw; (try dsimp only at hSw); go_simp; try (with_reducible rfl))
        simp only [List.getElem_toArray, List.getElem_cons_succ, List.getElem_cons_zero, Act.put, List.setIfInBounds_toArray, List.set_cons_zero, List.set_cons_succ]
        refine wpAnyH_take (i := 8) (v := ?v100) rfl (by kernel_rfl) (by kernel_rfl) (by kernel_rfl) (fun _ _ _ h => h) (Or.inl ⟨by rfl, ?y100⟩) (by assumption) ?r100
        case y100 => (intro w hSw; (try dsimp only at hSw); go_simp; try (with_reducible rfl))
        simp only [List.getElem_toArray, List.getElem_cons_succ, List.getElem_cons_zero, Act.put, List.setIfInBounds_toArray, List.set_cons_zero, List.set_cons_succ]
        refine wpAnyH_take (i := 9) (v := ?v101) rfl (by kernel_rfl) (by kernel_rfl) (by kernel_rfl) (fun _ _ _ h => h) (Or.inl ⟨by rfl, ?y101⟩) (by assumption) ?r101
        case y101 => (intro w hSw; (try dsimp only at hSw); go_simp; try (with_reducible rfl))
        simp only [List.getElem_toArray, List.getElem_cons_succ, List.getElem_cons_zero, Act.put, List.setIfInBounds_toArray, List.set_cons_zero, List.set_cons_succ]
        refine wpAnyH_take (i := 10) (v := ?v102) rfl (by kernel_rfl) (by kernel_rfl) (by kernel_rfl) (fun _ _ _ h => h) (Or.inl ⟨by rfl, ?y102⟩) (by assumption) ?r102
        case y102 => (intro w hSw; (try dsimp only at hSw); go_simp; try (with_reducible rfl))
        simp only [List.getElem_toArray, List.getElem_cons_succ, List.getElem_cons_zero, Act.put, List.setIfInBounds_toArray, List.set_cons_zero, List.set_cons_succ]
        refine wpAnyH_ready (rs := [11]) (by kernel_rfl) (by simp) ?_
        refine AllReadyH.cons rfl (fun K hK => ?_) AllReadyH.nil
        simp only [List.getElem_toArray, List.getElem_cons_succ, List.getElem_cons_zero]
        go_simp
        go_at_call 73
        refine (CC.out _ hHeld.2).mono ?_
        rintro e w3 ⟨c, rfl, hc, hb⟩
        have hcn : c < 0 := hc.2 HL.out; have hcn2 : (!decide (c < 0)) = false := by simp [hcn]
        dsimp only
        refine hK.out _ _ ?_ (fun hHeld => ?_)
        · exact keep2s (by assumption) hb
        clear hK K
        try simp only [Act.put, List.setIfInBounds_toArray, List.set_cons_zero, List.set_cons_succ]
        refine wpAnyH_take (i := 12) (v := ?v103) rfl (by kernel_rfl) (by kernel_rfl) (by kernel_rfl) (fun _ _ _ h => h) (Or.inl ⟨by rfl, ?y103⟩) (by assumption) ?r103
        case y103 => (intro w hSw; (try dsimp only at hSw); go_simp; try (with_reducible rfl))
        simp only [List.getElem_toArray, List.getElem_cons_succ, List.getElem_cons_zero, Act.put, List.setIfInBounds_toArray, List.set_cons_zero, List.set_cons_succ]
        refine wpAnyH_take (i := 13) (v := ?v104) rfl (by kernel_rfl) (by kernel_rfl) (by kernel_rfl) (fun _ _ _ h => h) (Or.inl ⟨by rfl, ?y104⟩) (by assumption) ?r104
        case y104 => (intro w hSw; (try dsimp only at hSw); go_simp; try (with_reducible rfl))
        simp only [List.getElem_toArray, List.getElem_cons_succ, List.getElem_cons_zero, Act.put, List.setIfInBounds_toArray, List.set_cons_zero, List.set_cons_succ]
        refine wpAnyH_done (by kernel_rfl) ?_ _
        have HI3 := hide (HI.out.below hHeld.2)
        have HQ : Hid ((s0 < s → lt (gi L (s - 1)) (gi L (nn - s))) ∧ (h < md → lt (gi L (pq - h)) (gi L h))) := ⟨HP.out.1, fun _ => by rw [← HPC.out, ← HXY.out.1, ← HXY.out.2]; exact HL.out⟩
        clear hHeld k1 k2 hc CC HI
        go_wp2
        go_roundw
        case rel => exact ⟨s, h, rfl, by rw [HHE.out], hms, by omega, by omega, HQ.out, HI3.out⟩
        case measure => have := HHE.out; simp [intOf]; omega
      · have HL := hide hl
        clear hl
        go_wp2
        refine wp_region_held_drew (S := fun wx => (wx.cell? ⟨g, pc, none⟩ = some (.int .i64 x) ∧ wx.cell? ⟨g, h, none⟩ = some (.int .i64 y)) ∧ Below wr.heap.size wr wx) (by kernel_rfl) ⟨⟨k1, k2⟩, (Below.refl _ _).drew⟩ (fun hHeld => ?_)
        refine wpAnyH_take (i := 0) (v := ?v105) rfl (by kernel_rfl) (by kernel_rfl) (by kernel_rfl) (fun _ _ _ h => h) (Or.inl ⟨by rfl, ?y105⟩) (by assumption) ?r105
        case y105 => (intro w hSw; (try dsimp only at hSw); go_simp; try (with_reducible rfl))
        simp only [List.getElem_toArray, List.getElem_cons_zero, Act.put, List.setIfInBounds_toArray, List.set_cons_zero, List.set_cons_succ]
        refine wpAnyH_take (i := 1) (v := ?v106) rfl (by kernel_rfl) (by kernel_rfl) (by kernel_rfl) (fun _ _ _ h => h) (Or.inl ⟨by rfl, ?y106⟩) (by assumption) ?r106
        case y106 => (intro w hSw; (try dsimp only at hSw); go_simp; try (with_reducible rfl))
        simp only [List.getElem_toArray, List.getElem_cons_succ, List.getElem_cons_zero, Act.put, List.setIfInBounds_toArray, List.set_cons_zero, List.set_cons_succ]
        refine wpAnyH_take (i := 2) (v := ?v107) rfl (by kernel_rfl) (by kernel_rfl) (by kernel_rfl) (fun _ _ _ h => h) (Or.inl ⟨by rfl, ?y107⟩) (by assumption) ?r107
        case y107 => (intro w hSw; (try dsimp only at hSw); go_simp; try (with_reducible rfl))
        simp only [List.getElem_toArray, List.getElem_cons_succ, List.getElem_cons_zero, Act.put, List.setIfInBounds_toArray, List.set_cons_zero, List.set_cons_succ]
        refine wpAnyH_take (i := 3) (v := ?v108) rfl (by kernel_rfl) (by kernel_rfl) (by kernel_rfl) (fun _ _ _ h => h) (Or.inl ⟨by rfl, ?y108⟩) (by assumption) ?r108
        case y108 => (intro w hSw; (try dsimp only at hSw); go_simp; try (with_reducible rfl))
        simp only [List.getElem_toArray, List.getElem_cons_succ, List.getElem_cons_zero, Act.put, List.setIfInBounds_toArray, List.set_cons_zero, List.set_cons_succ]
        refine wpAnyH_take (i := 4) (v := ?v109) rfl (by kernel_rfl) (by kernel_rfl) (by kernel_rfl) (fun _ _ _ h => h) (Or.inl ⟨by rfl, ?y109⟩) (by assumption) ?r109
        case y109 => (intro w hSw; (try dsimp only at hSw); go_simp; try (with_reducible rfl))
        simp only [List.getElem_toArray, List.getElem_cons_succ, List.getElem_cons_zero, Act.put, List.setIfInBounds_toArray, List.set_cons_zero, List.set_cons_succ]
        refine wpAnyH_take (i := 5) (v := ?v110) rfl (by kernel_rfl) (by kernel_rfl) (by kernel_rfl) (fun _ _ _ h => h) (Or.inl ⟨by rfl, ?y110⟩) (by assumption) ?r110
        case y110 => (intro w hSw; (try dsimp only at hSw); go_simp; try (with_reducible rfl))
        simp only [List.getElem_toArray, List.getElem_cons_succ, List.getElem_cons_zero, Act.put, List.setIfInBounds_toArray, List.set_cons_zero, List.set_cons_succ]
        refine wpAnyH_take (i := 6) (v := ?v111) rfl (by kernel_rfl) (by kernel_rfl) (by kernel_rfl) (fun _ _ _ h => h) (Or.inl ⟨by rfl, ?y111⟩) (by assumption) ?r111
        case y111 => (intro w hSw; (try dsimp only at hSw); go_simp; try (with_reducible rfl))
        simp only [List.getElem_toArray, List.getElem_cons_succ, List.getElem_cons_zero, Act.put, List.setIfInBounds_toArray, List.set_cons_zero, List.set_cons_succ]
        refine wpAnyH_take (i := 7) (v := ?v112) rfl (by kernel_rfl) (by kernel_rfl) (by kernel_rfl) (fun _ _ _ h => h) (Or.inl ⟨by rfl, ?y112⟩) (by assumption) ?r112
        case y112 => (intro w hSw; (try dsimp only at hSw); go_simp; try (with_reducible rfl))
        simp only [List.getElem_toArray, List.getElem_cons_succ, List.getElem_cons_zero, Act.put, List.setIfInBounds_toArray, List.set_cons_zero, List.set_cons_succ]
        refine wpAnyH_take (i := 8) (v := ?v113) rfl (by kernel_rfl) (by kernel_rfl) (by kernel_rfl) (fun _ _ _ h => h) (Or.inl ⟨by rfl, ?y113⟩) (by assumption) ?r113
        case y113 => (intro w hSw; (try dsimp only at hSw); go_simp; try (with_reducible rfl))
        simp only [List.getElem_toArray, List.getElem_cons_succ, List.getElem_cons_zero, Act.put, List.setIfInBounds_toArray, List.set_cons_zero, List.set_cons_succ]
        refine wpAnyH_take (i := 9) (v := ?v114) rfl (by kernel_rfl) (by kernel_rfl) (by kernel_rfl) (fun _ _ _ h => h) (Or.inl ⟨by rfl, ?y114⟩) (by assumption) ?r114
        case y114 => (intro w hSw; (try dsimp only at hSw); go_simp; try (with_reducible rfl))
        simp only [List.getElem_toArray, List.getElem_cons_succ, List.getElem_cons_zero, Act.put, List.setIfInBounds_toArray, List.set_cons_zero, List.set_cons_succ]
        refine wpAnyH_take (i := 10) (v := ?v115) rfl (by kernel_rfl) (by kernel_rfl) (by kernel_rfl) (fun _ _ _ h => h) (Or.inl ⟨by rfl, ?y115⟩) (by assumption) ?r115
        case y115 => (intro w hSw; (try dsimp only at hSw); go_simp; try (with_reducible rfl))
        simp only [List.getElem_toArray, List.getElem_cons_succ, List.getElem_cons_zero, Act.put, List.setIfInBounds_toArray, List.set_cons_zero, List.set_cons_succ]
        refine wpAnyH_ready (rs := [11]) (by kernel_rfl) (by simp) ?_
        refine AllReadyH.cons rfl (fun K hK => ?_) AllReadyH.nil
        simp only [List.getElem_toArray, List.getElem_cons_succ, List.getElem_cons_zero]
        go_simp
        go_at_call 73
        refine (CC.out _ hHeld.2).mono ?_
        rintro e w3 ⟨c, rfl, hc, hb⟩
        have hcn : ¬ c < 0 := fun h => HL.out (hc.1 h); have hcn2 : (!decide (c < 0)) = true := by simp [hcn]
        dsimp only
        refine hK.out _ _ ?_ (fun hHeld => ?_)
        · exact keep2s (by assumption) hb
        clear hK K
        try simp only [Act.put, List.setIfInBounds_toArray, List.set_cons_zero, List.set_cons_succ]
        refine wpAnyH_take (i := 12) (v := ?v116) rfl (by kernel_rfl) (by kernel_rfl) (by kernel_rfl) (fun _ _ _ h => h) (Or.inl ⟨by rfl, ?y116⟩) (by assumption) ?r116
        case y116 => (intro w hSw; (try dsimp only at hSw); go_simp; try (with_reducible rfl))
        simp only [List.getElem_toArray, List.getElem_cons_succ, List.getElem_cons_zero, Act.put, List.setIfInBounds_toArray, List.set_cons_zero, List.set_cons_succ]
        refine wpAnyH_take (i := 13) (v := ?v117) rfl (by kernel_rfl) (by kernel_rfl) (by kernel_rfl) (fun _ _ _ h => h) (Or.inl ⟨by rfl, ?y117⟩) (by assumption) ?r117
        case y117 => (intro w hSw; (try dsimp only at hSw); go_simp; try (with_reducible rfl))
        simp only [List.getElem_toArray, List.getElem_cons_succ, List.getElem_cons_zero, Act.put, List.setIfInBounds_toArray, List.set_cons_zero, List.set_cons_succ]
        refine wpAnyH_done (by kernel_rfl) ?_ _
        have HI3 := hide (HI.out.below hHeld.2)
        have HQ : Hid ((s0 < h + 1 → lt (gi L (h + 1 - 1)) (gi L (nn - (h + 1)))) ∧ (r < md → lt (gi L (pq - r)) (gi L r))) := ⟨fun _ => by rw [HNH.out, show h + 1 - 1 = h by omega, ← HXY.out.1, ← HXY.out.2]; exact O.total _ _ (by rw [HXY.out.1, HXY.out.2]; exact HX.out h pc (by omega) (by omega) (by omega) (by omega)) HL.out, HP.out.2⟩
        clear hHeld k1 k2 hc CC HI
        go_wp2
        go_roundw
        case rel => exact ⟨h + 1, r, by first | rfl | go_num, rfl, by omega, by omega, hrr, HQ.out, HI3.out⟩
        case measure => have := HHE.out; simp [intOf]; omega
    · have hltI : ¬ (s : Int) < (r : Int) := by omega
      obtain rfl : s = r := by omega
      obtain ⟨e, he⟩ : ∃ e, e = nn - s := ⟨_, rfl⟩
      have hwe : IntKind.i64.wrap ((nn : Int) - (s : Int)) = (e : Int) := by rw [wrapN _ (by omega) (by omega)]; omega
      have hb1 : a ≤ s ∧ s ≤ m ∧ m ≤ e ∧ e ≤ b ∧ md ≤ s + (e - m) ∧ s + (e - m) ≤ md := by omega
      have F1 : Hid (a < s → e < b → lt (gi L (s - 1)) (gi L e)) := fun h1 h2 => by rw [he]; exact HP.out.1 (by omega)
      have F2 : Hid (m < e → s < m → lt (gi L (e - 1)) (gi L s)) := fun h1 h2 => by rw [show e - 1 = pq - s by omega]; exact HP.out.2 (by omega)
      clear HP he
      go_upto_region 39 with fail
      go_cut [185] (fun t wx => ∃ bb : Bool, t = .bool bb ∧ Hid (bb = true ↔ s < m ∧ m < e) ∧ RI w0 wx base g cap n L)
      case first =>
        by_cases h1 : s < m
        · have h1I : (s : Int) < (m : Int) := by omega
          by_cases h2 : m < e
          · have h2I : (m : Int) < (e : Int) := by omega
            go_wp2_with fail
            go_meet
            exact ⟨true, rfl, ⟨fun _ => ⟨h1, h2⟩, fun _ => rfl⟩, HI.out⟩
          · have h2I : ¬ (m : Int) < (e : Int) := by omega
            have h2J : decide ((m : Int) < (e : Int)) = false := decide_eq_false h2I
            go_wp2_with fail
            go_meet
            exact ⟨false, rfl, ⟨fun h => absurd h (by simp), fun h => absurd h.2 h2⟩, HI.out⟩
        · first
            | (exfalso; omega)
            | (have h1I : ¬ (s : Int) < (m : Int) := by omega
               have h1J : decide ((s : Int) < (m : Int)) = false := decide_eq_false h1I
               go_wp2_with fail
               go_meet
               exact ⟨false, rfl, ⟨fun h => absurd h (by simp), fun h => absurd h.1 h1⟩, HI.out⟩)
      case rest =>
      as_aux_lemma =>
      obtain ⟨bb, rfl, hbb, hI4⟩ := hcut
      have HBB := hbb
      have HI4 := hide hI4
      clear hI4 HI
      have HI := HI4
      go_upto_if 185 with fail
      go_cut [] (fun wx => ∃ L1, RI w0 wx base g cap n L1 ∧ Hid (∀ t, gi L1 t = gi L (rot s m e t)))
      case first =>
        cases bb with
        | true =>
          have h12 := HBB.out.1 rfl
          have C := hide (rotate_any w0 _ base g cap n L s m e HI.out h12.1 h12.2 (by omega) hn (.func (.func 73) #[] #[.pointer (some pp)]))
          clear HI HI4
          go_wp2_with fail
          refine C.out.mono ?_
          rintro e2 w2 ⟨rfl, L2, g2, hx2⟩
          have H2 := hide (And.intro g2 hx2)
          clear g2 hx2
          go_wp2_with fail
          go_meet
          exact ⟨L2, H2.out.1, H2.out.2⟩
        | false =>
          have hno : s = m ∨ m = e := by
            have h := HBB.out
            by_cases h1 : s < m
            · by_cases h2 : m < e
              · exact absurd (h.2 ⟨h1, h2⟩) (by simp)
              · exact .inr (by omega)
            · exact .inl (by omega)
          have HNO := hide hno
          clear hno
          go_wp2_with fail
          go_meet
          exact ⟨L, HI.out, fun t => by rw [rot_none _ _ _ _ (by omega) (by omega) HNO.out]⟩
      case rest =>
        as_aux_lemma =>
        obtain ⟨L1, g1, hx1⟩ := hcut
        have H1 := hide g1
        have HX1 := hx1
        clear g1 hx1 HI
        have PL1 : Hid (PO a b (gi L) (gi L1)) := (PO.rot (by omega) (by omega) HX1.out : PO s e (gi L) (gi L1)).wide (by omega) (by omega)
        have e1 : Hid (∀ t, t < s → gi L1 t = gi L t) := fun t ht => by rw [HX1.out, rot_out _ _ _ _ (by omega) (by omega) (by omega)]
        have e2 : Hid (∀ t, e ≤ t → gi L1 t = gi L t) := fun t ht => by rw [HX1.out, rot_out _ _ _ _ (by omega) (by omega) (by omega)]
        have e3 : Hid (∀ t, s ≤ t → t < md → gi L1 t = gi L (m + (t - s))) := fun t h1 h2 => by
          rw [HX1.out]
          congr 1
          unfold rot
          rw [if_pos (by omega)]
        have e4 : Hid (∀ t, md ≤ t → t < e → gi L1 t = gi L (s + (t - md))) := fun t h1 h2 => by
          rw [HX1.out]
          congr 1
          unfold rot
          rw [if_neg (by omega), if_pos (by omega)]
          try omega
        have SL1 : Hid (∀ t, t < n → S (gi L1 t)) := po_all PL1.out hb HSS.out
        clear HI4 HBB hbb
        go_upto_region 41 with fail
        go_cut [199] (fun t wx => ∃ bb : Bool, t = .bool bb ∧ Hid (bb = true ↔ a < s ∧ s < md) ∧ RI w0 wx base g cap n L1)
        case first =>
          by_cases h1 : a < s
          · have h1I : (a : Int) < (s : Int) := by omega
            by_cases h2 : s < md
            · have h2I : (s : Int) < (md : Int) := by omega
              go_wp2_with fail
              go_meet
              exact ⟨true, rfl, ⟨fun _ => ⟨h1, h2⟩, fun _ => rfl⟩, H1.out⟩
            · have h2I : ¬ (s : Int) < (md : Int) := by omega
              have h2J : decide ((s : Int) < (md : Int)) = false := decide_eq_false h2I
              go_wp2_with fail
              go_meet
              exact ⟨false, rfl, ⟨fun h => absurd h (by simp), fun h => absurd h.2 h2⟩, H1.out⟩
          · have h1I : ¬ (a : Int) < (s : Int) := by omega
            have h1J : decide ((a : Int) < (s : Int)) = false := decide_eq_false h1I
            go_wp2_with fail
            go_meet
            exact ⟨false, rfl, ⟨fun h => absurd h (by simp), fun h => absurd h.1 h1⟩, H1.out⟩
        case rest =>
        as_aux_lemma =>
        obtain ⟨bb, rfl, hbb, hI4⟩ := hcut
        have HBB := hbb
        have HI4 := hide hI4
        clear hI4 H1
        have H1 := HI4
        go_upto_if 199 with fail
        go_cut [] (fun wx => ∃ L2, RI w0 wx base g cap n L2 ∧ Hid (PO a md (gi L1) (gi L2) ∧ So lt (gi L2) a md))
        case first =>
          cases bb with
          | true =>
            have h12 := HBB.out.1 rfl
            have C := hide (fun w h => IH.out w L1 a s md (by omega) h12.1 h12.2 (by omega) h SL1.out
              (fun i j q1 q2 q3 => by rw [e1.out i (by omega), e1.out j (by omega)]; exact HA.out i j q1 q2 (by omega))
              (fun i j q1 q2 q3 => by rw [e3.out i (by omega) (by omega), e3.out j (by omega) (by omega)]; exact HB.out _ _ (by omega) (by omega) (by omega))
              (fun i j q1 q2 q3 q4 => by rw [e1.out i (by omega), e3.out j (by omega) (by omega)]; exact HX.out _ _ (by omega) (by omega) (by omega) (by omega)))
            go_wp2_with fail
            refine (C.out _ H1.out).mono ?_
            rintro e9 w2 ⟨rfl, L2, g2, hp2, hs2⟩
            have H2 := hide (And.intro g2 (And.intro hp2 hs2))
            clear g2 hp2 hs2 H1 HI4
            go_wp2_with fail
            go_meet
            exact ⟨L2, H2.out.1, H2.out.2.1, H2.out.2.2⟩
          | false =>
            have HS1 : Hid (So lt (gi L1) a md) := by
              have h := HBB.out
              by_cases h1 : a < s
              · by_cases h2 : s < md
                · exact absurd (h.2 ⟨h1, h2⟩) (by simp)
                · exact fun i j q1 q2 q3 => by rw [e1.out i (by omega), e1.out j (by omega)]; exact HA.out i j q1 q2 (by omega)
              · exact fun i j q1 q2 q3 => by rw [e3.out i (by omega) (by omega), e3.out j (by omega) (by omega)]; exact HB.out _ _ (by omega) (by omega) (by omega)
            go_wp2_with fail
            go_meet
            exact ⟨L1, H1.out, PO.refl _ _ _, HS1.out⟩
        case rest =>
          as_aux_lemma =>
          obtain ⟨L2, g2, hx2⟩ := hcut
          have H2 := hide g2
          have HP2 := hx2
          clear g2 hx2 H1 HI4 HBB hbb
          have FIN : Hid (∀ L3 : List Int, PO md b (gi L2) (gi L3) → So lt (gi L3) md b → PO a b (gi L) (gi L3) ∧ So lt (gi L3) a b) := fun L3 p3 s3 =>
            ⟨(PL1.out.trans (HP2.out.1.wide (Nat.le_refl _) (by omega))).trans (p3.wide (by omega) (Nat.le_refl _)), so_halves O HA.out HB.out hb1.1 hb1.2.1 hb1.2.2.1 hb1.2.2.2.1 (by omega) F1.out F2.out HX1.out HP2.out.1 HP2.out.2 p3 s3⟩
          have l2 : Hid (∀ t, md ≤ t → gi L2 t = gi L1 t) := fun t ht => HP2.out.1.out t (by omega)
          by_cases h1 : md < e
          · have h1I : (md : Int) < (e : Int) := by omega
            by_cases h2 : e < b
            · have h2I : (e : Int) < (b : Int) := by omega
              have C := hide (fun w h => IH.out w L2 md e b (by omega) h1 h2 hb h (po_all HP2.out.1 (by omega) SL1.out)
                (fun i j q1 q2 q3 => by rw [l2.out i q1, l2.out j (by omega), e4.out i (by omega) (by omega), e4.out j (by omega) (by omega)]; exact HA.out _ _ (by omega) (by omega) (by omega))
                (fun i j q1 q2 q3 => by rw [l2.out i (by omega), l2.out j (by omega), e2.out i (by omega), e2.out j (by omega)]; exact HB.out _ _ (by omega) (by omega) (by omega))
                (fun i j q1 q2 q3 q4 => by rw [l2.out i (by omega), l2.out j (by omega), e4.out i (by omega) (by omega), e2.out j (by omega)]; exact HX.out _ _ (by omega) (by omega) (by omega) (by omega)))
              go_wp2_with fail
              refine (C.out _ H2.out).mono ?_
              rintro e9 w2 ⟨rfl, L3, g3, hp3, hs3⟩
              have H3 := hide (And.intro g3 (And.intro hp3 hs3))
              clear g3 hp3 hs3 H2
              go_wp2
              go_end0
              exact ⟨rfl, L3, H3.out.1, FIN.out L3 H3.out.2.1 H3.out.2.2⟩
            · have h2I : ¬ (e : Int) < (b : Int) := by omega
              go_wp2
              go_end0
              exact ⟨rfl, L2, H2.out, FIN.out L2 (PO.refl _ _ _) (fun i j q1 q2 q3 => by rw [l2.out i q1, l2.out j (by omega), e4.out i (by omega) (by omega), e4.out j (by omega) (by omega)]; exact HA.out _ _ (by omega) (by omega) (by omega))⟩
          · have h1I : ¬ (md : Int) < (e : Int) := by omega
            go_wp2
            go_end0
            exact ⟨rfl, L2, H2.out, FIN.out L2 (PO.refl _ _ _) (fun i j q1 q2 q3 => by rw [l2.out i q1, l2.out j (by omega), e2.out i (by omega), e2.out j (by omega)]; exact HB.out _ _ (by omega) (by omega) (by omega))⟩
end Go.Proofs.Ytohcjafklfemfam.SrtI

namespace Go.Proofs.Ytohcjafklfemfam.SrtI
open Go.RowKit L1 Srt
set_option linter.unusedVariables false

set_option maxRecDepth 100000 in
set_option maxHeartbeats 8000000 in
theorem sym_small (w0 : World) (base g cap n : Nat) (pp : Addr) (lt : Int → Int → Prop) (tag : Int → Nat) (S : Int → Prop) (O : Ord lt tag) (hn : n ≤ 1048576) (hC : ∀ wx x y, Below g w0 wx → S x → S y → tag x < tag y → Calls Try.prog 73 #[.int .i64 y, .int .i64 x, .pointer (some pp)] wx fun e w' => ∃ c : Int, e = .returned (.int .i64 c) ∧ (c < 0 ↔ lt y x) ∧ Below wx.heap.size wx w') (w : World) (L : List Int) (a m b : Nat) (ham : a < m) (hmb : m < b) (hb : b ≤ n) (hma : m ≠ a + 1) (hmb1 : b ≠ m + 1) (hbg : ¬ (a + b) / 2 < m) (hIH : ∀ (w : World) (L : List Int) (p q r : Nat), r - p < b - a → p < q → q < r → r ≤ n → RI w0 w base g cap n L → (∀ t, t < n → S (gi L t)) → So lt (gi L) p q → So lt (gi L) q r → Cr tag (gi L) p q r → Calls Try.prog 97 #[.slice (some ⟨g, 0, none⟩) n cap, .int .i64 p, .int .i64 q, .int .i64 r, (.func (.func 73) #[] #[.pointer (some pp)])] w fun e w' => e = .returned (.tuple #[]) ∧ ∃ L', RI w0 w' base g cap n L' ∧ PO p r (gi L) (gi L') ∧ So lt (gi L') p r) (hR : RI w0 w base g cap n L) (hS : ∀ t, t < n → S (gi L t)) (hA : So lt (gi L) a m) (hB : So lt (gi L) m b) (hX : Cr tag (gi L) a m b) :
    Calls Try.prog 97 #[.slice (some ⟨g, 0, none⟩) n cap, .int .i64 a, .int .i64 m, .int .i64 b, (.func (.func 73) #[] #[.pointer (some pp)])] w fun e w' => e = .returned (.tuple #[]) ∧ ∃ L', RI w0 w' base g cap n L' ∧ PO a b (gi L) (gi L') ∧ So lt (gi L') a b := by
  have HC := hide hC
  have HR := hide hR
  have HSS := hide hS
  have HA := hide hA
  have HB := hide hB
  have HX := hide hX
  clear hC hR hS hA hB hX
  have IH := hide hIH
  have hw0 : IntKind.i64.wrap ((m : Int) - (a : Int)) = ((m - a : Nat) : Int) := by rw [wrapN _ (by omega) (by omega)]; omega
  have hne : (((m - a : Nat) : Int) == 1) = false := by simp; omega
  have hw9 : IntKind.i64.wrap ((b : Int) - (m : Int)) = ((b - m : Nat) : Int) := by rw [wrapN _ (by omega) (by omega)]; omega
  have hne9 : (((b - m : Nat) : Int) == 1) = false := by simp; omega
  obtain ⟨md, hmd⟩ : ∃ q, q = (a + b) / 2 := ⟨_, rfl⟩
  have hwab : IntKind.i64.wrap ((a : Int) + (b : Int)) = (a : Int) + (b : Int) := wrapN _ (by omega) (by omega)
  have hmi : ((a : Int) + (b : Int)) / 2 = (md : Int) := by omega
  have HMD := hide hmi
  have hmab : a ≤ md ∧ md < b ∧ 2 * md ≤ a + b ∧ a + b ≤ 2 * md + 1 := by omega
  obtain ⟨nn, hnn⟩ : ∃ q, q = md + m := ⟨_, rfl⟩
  have hwn : IntKind.i64.wrap ((md : Int) + (m : Int)) = (nn : Int) := by rw [wrapN _ (by omega) (by omega)]; omega
  obtain ⟨pq, hpq⟩ : ∃ q, q = nn - 1 := ⟨_, rfl⟩
  have hwq : IntKind.i64.wrap ((nn : Int) - 1) = (pq : Int) := by rw [wrapN _ (by omega) (by omega)]; omega
  have hmm : m ≤ md := by omega
  clear hma hmb1 hIH hmi hmd hbg
  go_enter Try.func97, Try.ntmps97
  go_upto_region 25 with fail
  rw [HMD.out]
  have hbI : ¬ (md : Int) < (m : Int) := by omega
  have hnpq : (nn ≤ md + m ∧ md + m ≤ nn) ∧ (pq + 1 ≤ nn ∧ nn ≤ pq + 1) := by omega
  clear hnn hpq
  go_wp2
  go_loopw [20, 21] (fun sv rv wr => ∃ s r : Nat, sv = .int .i64 s ∧ rv = .int .i64 r ∧ a ≤ s ∧ s ≤ r ∧ r ≤ m ∧ Hid ((a < s → lt (gi L (s - 1)) (gi L (nn - s))) ∧ (r < m → lt (gi L (pq - r)) (gi L r))) ∧ RI w0 wr base g cap n L) (fun sv rv _ => (intOf rv).toNat - (intOf sv).toNat)
  case atStart => exact ⟨a, m, rfl, rfl, Nat.le_refl _, by omega, Nat.le_refl _, ⟨fun h => absurd h (Nat.lt_irrefl _), fun h => absurd h (Nat.lt_irrefl _)⟩, HR.out⟩
  case round =>
    obtain ⟨s, r, rfl, rfl, hms, hsr, hrr, HP, hI⟩ := hrel
    have HI := hide hI
    clear hI
    by_cases hlt : s < r
    · have hltI : (s : Int) < (r : Int) := by omega
      obtain ⟨h, hh⟩ : ∃ h, h = (s + r) / 2 := ⟨_, rfl⟩
      have hw1 : IntKind.i64.wrap ((s : Int) + (r : Int)) = (s : Int) + (r : Int) := wrapN _ (by omega) (by omega)
      have hhe : ((s : Int) + (r : Int)) / 2 = (h : Int) := by omega
      have hhI : ((s : Int) + (r : Int)) / 2 < (n : Int) := by omega
      have hh0 : (0 : Int) ≤ ((s : Int) + (r : Int)) / 2 := by omega
      have hht : (((s : Int) + (r : Int)) / 2).toNat = h := by omega
      have hh1 : IntKind.i64.wrap (((s : Int) + (r : Int)) / 2 + 1) = ((h + 1 : Nat) : Int) := by rw [wrapN _ (by omega) (by omega)]; omega
      have HHE := hide hhe
      have hih : s ≤ h ∧ h < r := by omega
      clear hhe
      obtain ⟨pc, hpc⟩ : ∃ q, q = pq - h := ⟨_, rfl⟩
      have hwp : IntKind.i64.wrap ((pq : Int) - ((s : Int) + (r : Int)) / 2) = (pc : Int) := by rw [wrapN _ (by omega) (by omega)]; omega
      have hpI : (pc : Int) < (n : Int) := by omega
      have hp0 : (0 : Int) ≤ (pc : Int) := by omega
      have hpcb : m ≤ pc ∧ pc < b ∧ a ≤ h ∧ h < m := by omega
      have HNH : Hid (nn - (h + 1) = pc) := by show _ = _; omega
      have HPC := hide hpc
      have htg : tag (gi L h) < tag (gi L pc) := HX.out h pc (by omega) (by omega) (by omega) (by omega)
      clear hh hpc
      have CC := hide (fun wx (hb : Below wr.heap.size wr wx) => HC.out wx (gi L h) (gi L pc) (HI.out.bel.trans (hb.mono (Nat.le_of_lt HI.out.lt))) (HSS.out h (by omega)) (HSS.out pc (by omega)) htg)
      have k1 := HI.out.cell pc (by omega)
      have k2 := HI.out.cell h (by omega)
      obtain ⟨x, hx⟩ : ∃ x, x = gi L pc := ⟨_, rfl⟩
      obtain ⟨y, hy⟩ : ∃ y, y = gi L h := ⟨_, rfl⟩
      rw [← hx, ← hy] at CC
      rw [← hx] at k1
      rw [← hy] at k2
      have HXY : Hid (x = gi L pc ∧ y = gi L h) := ⟨hx, hy⟩
      clear hx hy htg
      by_cases hl : lt x y
      · have HL := hide hl
        clear hl
        go_wp2
        refine wp_region_held_drew (S := fun wx => (wx.cell? ⟨g, pc, none⟩ = some (.int .i64 x) ∧ wx.cell? ⟨g, h, none⟩ = some (.int .i64 y)) ∧ Below wr.heap.size wr wx) (by kernel_rfl) ⟨⟨k1, k2⟩, (Below.refl _ _).drew⟩ (fun hHeld => ?_)
        refine wpAnyH_take (i := 0) (v := ?v118) rfl (by kernel_rfl) (by kernel_rfl) (by kernel_rfl) (fun _ _ _ h => h) (Or.inl ⟨by rfl, ?y118⟩) (by assumption) ?r118
        case y118 => (intro w hSw; (try dsimp only at hSw); go_simp; try (with_reducible rfl))
        simp only [List.getElem_toArray, List.getElem_cons_zero, Act.put, List.setIfInBounds_toArray, List.set_cons_zero, List.set_cons_succ]
        refine wpAnyH_take (i := 1) (v := ?v119) rfl (by kernel_rfl) (by kernel_rfl) (by kernel_rfl) (fun _ _ _ h => h) (Or.inl ⟨by rfl, ?y119⟩) (by assumption) ?r119
        case y119 => (intro w hSw; (try dsimp only at hSw); go_simp; try (with_reducible rfl))
        simp only [List.getElem_toArray, List.getElem_cons_succ, List.getElem_cons_zero, Act.put, List.setIfInBounds_toArray, List.set_cons_zero, List.set_cons_succ]
        refine wpAnyH_take (i := 2) (v := ?v120) rfl (by kernel_rfl) (by kernel_rfl) (by kernel_rfl) (fun _ _ _ h => h) (Or.inl ⟨by rfl, ?y120⟩) (by assumption) ?r120
        case y120 => (intro w hSw; (try dsimp only at hSw); go_simp; try (with_reducible rfl))
        simp only [List.getElem_toArray, List.getElem_cons_succ, List.getElem_cons_zero, Act.put, List.setIfInBounds_toArray, List.set_cons_zero, List.set_cons_succ]
        refine wpAnyH_take (i := 3) (v := ?v121) rfl (by kernel_rfl) (by kernel_rfl) (by kernel_rfl) (fun _ _ _ h => h) (Or.inl ⟨by rfl, ?y121⟩) (by assumption) ?r121
        case y121 => (intro w hSw; (try dsimp only at hSw); go_simp; try (with_reducible rfl))
        simp only [List.getElem_toArray, List.getElem_cons_succ, List.getElem_cons_zero, Act.put, List.setIfInBounds_toArray, List.set_cons_zero, List.set_cons_succ]
        refine wpAnyH_take (i := 4) (v := ?v122) rfl (by kernel_rfl) (by kernel_rfl) (by kernel_rfl) (fun _ _ _ h => h) (Or.inl ⟨by rfl, ?y122⟩) (by assumption) ?r122
        case y122 => (intro w hSw; (try dsimp only at hSw); go_simp; try (with_reducible rfl))
        simp only [List.getElem_toArray, List.getElem_cons_succ, List.getElem_cons_zero, Act.put, List.setIfInBounds_toArray, List.set_cons_zero, List.set_cons_succ]
        refine wpAnyH_take (i := 5) (v := ?v123) rfl (by kernel_rfl) (by kernel_rfl) (by kernel_rfl) (fun _ _ _ h => h) (Or.inl ⟨by rfl, ?y123⟩) (by assumption) ?r123
        case y123 => (intro w hSw; (try dsimp only at hSw); go_simp; try (with_reducible rfl))
        simp only [List.getElem_toArray, List.getElem_cons_succ, List.getElem_cons_zero, Act.put, List.setIfInBounds_toArray, List.set_cons_zero, List.set_cons_succ]
        refine wpAnyH_take (i := 6) (v := ?v124) rfl (by kernel_rfl) (by kernel_rfl) (by kernel_rfl) (fun _ _ _ h => h) (Or.inl ⟨by rfl, ?y124⟩) (by assumption) ?r124
        case y124 => (intro w hSw; (try dsimp only at hSw); go_simp; try (with_reducible rfl))
        simp only [List.getElem_toArray, List.getElem_cons_succ, List.getElem_cons_zero, Act.put, List.setIfInBounds_toArray, List.set_cons_zero, List.set_cons_succ]
        refine wpAnyH_take (i := 7) (v := ?v125) rfl (by kernel_rfl) (by kernel_rfl) (by kernel_rfl) (fun _ _ _ h => h) (Or.inl ⟨by rfl, ?y125⟩) (by assumption) ?r125
        case y125 => (intro w hSw; (try dsimp only at hSw); go_simp; try (with_reducible rfl))
        simp only [List.getElem_toArray, List.getElem_cons_succ, List.getElem_cons_zero, Act.put, List.setIfInBounds_toArray, List.set_cons_zero, List.set_cons_succ]
        refine wpAnyH_take (i := 8) (v := ?v126) rfl (by kernel_rfl) (by kernel_rfl) (by kernel_rfl) (fun _ _ _ h => h) (Or.inl ⟨by rfl, ?y126⟩) (by assumption) ?r126
        case y126 => (intro w hSw; (try dsimp only at hSw); go_simp; try (with_reducible rfl))
        simp only [List.getElem_toArray, List.getElem_cons_succ, List.getElem_cons_zero, Act.put, List.setIfInBounds_toArray, List.set_cons_zero, List.set_cons_succ]
        refine wpAnyH_take (i := 9) (v := ?v127) rfl (by kernel_rfl) (by kernel_rfl) (by kernel_rfl) (fun _ _ _ h => h) (Or.inl ⟨by rfl, ?y127⟩) (by assumption) ?r127
        case y127 => (intro w hSw; (try dsimp only at hSw); go_simp; try (with_reducible rfl))
        simp only [List.getElem_toArray, List.getElem_cons_succ, List.getElem_cons_zero, Act.put, List.setIfInBounds_toArray, List.set_cons_zero, List.set_cons_succ]
        refine wpAnyH_take (i := 10) (v := ?v128) rfl (by kernel_rfl) (by kernel_rfl) (by kernel_rfl) (fun _ _ _ h => h) (Or.inl ⟨by rfl, ?y128⟩) (by assumption) ?r128
        case y128 => (intro w hSw; (try dsimp only at hSw); go_simp; try (with_reducible rfl))
        simp only [List.getElem_toArray, List.getElem_cons_succ, List.getElem_cons_zero, Act.put, List.setIfInBounds_toArray, List.set_cons_zero, List.set_cons_succ]
        refine wpAnyH_ready (rs := [11]) (by kernel_rfl) (by simp) ?_
        refine AllReadyH.cons rfl (fun K hK => ?_) AllReadyH.nil
        simp only [List.getElem_toArray, List.getElem_cons_succ, List.getElem_cons_zero]
        go_simp
        go_at_call 73
        refine (CC.out _ hHeld.2).mono ?_
        rintro e w3 ⟨c, rfl, hc, hb⟩
        have hcn : c < 0 := hc.2 HL.out; have hcn2 : (!decide (c < 0)) = false := by simp [hcn]
        dsimp only
        refine hK.out _ _ ?_ (fun hHeld => ?_)
        · exact keep2s (by assumption) hb
        clear hK K
        try simp only [Act.put, List.setIfInBounds_toArray, List.set_cons_zero, List.set_cons_succ]
        refine wpAnyH_take (i := 12) (v := ?v129) rfl (by kernel_rfl) (by kernel_rfl) (by kernel_rfl) (fun _ _ _ h => h) (Or.inl ⟨by rfl, ?y129⟩) (by assumption) ?r129
        case y129 => (intro w hSw; (try dsimp only at hSw); go_simp; try (with_reducible rfl))
        simp only [List.getElem_toArray, List.getElem_cons_succ, List.getElem_cons_zero, Act.put, List.setIfInBounds_toArray, List.set_cons_zero, List.set_cons_succ]
        refine wpAnyH_take (i := 13) (v := ?v130) rfl (by kernel_rfl) (by kernel_rfl) (by kernel_rfl) (fun _ _ _ h => h) (Or.inl ⟨by rfl, ?y130⟩) (by assumption) ?r130
        case y130 => (intro w hSw; (try dsimp only at hSw); go_simp; try (with_reducible rfl))
        simp only [List.getElem_toArray, List.getElem_cons_succ, List.getElem_cons_zero, Act.put, List.setIfInBounds_toArray, List.set_cons_zero, List.set_cons_succ]
        refine wpAnyH_done (by kernel_rfl) ?_ _
        have HI3 := hide (HI.out.below hHeld.2)
        have HQ : Hid ((a < s → lt (gi L (s - 1)) (gi L (nn - s))) ∧ (h < m → lt (gi L (pq - h)) (gi L h))) := ⟨HP.out.1, fun _ => by rw [← HPC.out, ← HXY.out.1, ← HXY.out.2]; exact HL.out⟩
        clear hHeld k1 k2 hc CC HI
        go_wp2
        go_roundw
        case rel => exact ⟨s, h, rfl, by rw [HHE.out], hms, by omega, by omega, HQ.out, HI3.out⟩
        case measure => have := HHE.out; simp [intOf]; omega
      · have HL := hide hl
        clear hl
        go_wp2
        refine wp_region_held_drew (S := fun wx => (wx.cell? ⟨g, pc, none⟩ = some (.int .i64 x) ∧ wx.cell? ⟨g, h, none⟩ = some (.int .i64 y)) ∧ Below wr.heap.size wr wx) (by kernel_rfl) ⟨⟨k1, k2⟩, (Below.refl _ _).drew⟩ (fun hHeld => ?_)
        refine wpAnyH_take (i := 0) (v := ?v131) rfl (by kernel_rfl) (by kernel_rfl) (by kernel_rfl) (fun _ _ _ h => h) (Or.inl ⟨by rfl, ?y131⟩) (by assumption) ?r131
        case y131 => (intro w hSw; (try dsimp only at hSw); go_simp; try (with_reducible rfl))
        simp only [List.getElem_toArray, List.getElem_cons_zero, Act.put, List.setIfInBounds_toArray, List.set_cons_zero, List.set_cons_succ]
        refine wpAnyH_take (i := 1) (v := ?v132) rfl (by kernel_rfl) (by kernel_rfl) (by kernel_rfl) (fun _ _ _ h => h) (Or.inl ⟨by rfl, ?y132⟩) (by assumption) ?r132
        case y132 => (intro w hSw; (try dsimp only at hSw); go_simp; try (with_reducible rfl))
        simp only [List.getElem_toArray, List.getElem_cons_succ, List.getElem_cons_zero, Act.put, List.setIfInBounds_toArray, List.set_cons_zero, List.set_cons_succ]
        refine wpAnyH_take (i := 2) (v := ?v133) rfl (by kernel_rfl) (by kernel_rfl) (by kernel_rfl) (fun _ _ _ h => h) (Or.inl ⟨by rfl, ?y133⟩) (by assumption) ?r133
        case y133 => (intro w hSw; (try dsimp only at hSw); go_simp; try (with_reducible rfl))
        simp only [List.getElem_toArray, List.getElem_cons_succ, List.getElem_cons_zero, Act.put, List.setIfInBounds_toArray, List.set_cons_zero, List.set_cons_succ]
        refine wpAnyH_take (i := 3) (v := ?v134) rfl (by kernel_rfl) (by kernel_rfl) (by kernel_rfl) (fun _ _ _ h => h) (Or.inl ⟨by rfl, ?y134⟩) (by assumption) ?r134
        case y134 => (intro w hSw; (try dsimp only at hSw); go_simp; try (with_reducible rfl))
        simp only [List.getElem_toArray, List.getElem_cons_succ, List.getElem_cons_zero, Act.put, List.setIfInBounds_toArray, List.set_cons_zero, List.set_cons_succ]
        refine wpAnyH_take (i := 4) (v := ?v135) rfl (by kernel_rfl) (by kernel_rfl) (by kernel_rfl) (fun _ _ _ h => h) (Or.inl ⟨by rfl, ?y135⟩) (by assumption) ?r135
        case y135 => (intro w hSw; (try dsimp only at hSw); go_simp; try (with_reducible rfl))
        simp only [List.getElem_toArray, List.getElem_cons_succ, List.getElem_cons_zero, Act.put, List.setIfInBounds_toArray, List.set_cons_zero, List.set_cons_succ]
        refine wpAnyH_take (i := 5) (v := ?v136) rfl (by kernel_rfl) (by kernel_rfl) (by kernel_rfl) (fun _ _ _ h => h) (Or.inl ⟨by rfl, ?y136⟩) (by assumption) ?r136
        case y136 => (intro w hSw; (try dsimp only at hSw); go_simp; try (with_reducible rfl))
        simp only [List.getElem_toArray, List.getElem_cons_succ, List.getElem_cons_zero, Act.put, List.setIfInBounds_toArray, List.set_cons_zero, List.set_cons_succ]
        refine wpAnyH_take (i := 6) (v := ?v137) rfl (by kernel_rfl) (by kernel_rfl) (by kernel_rfl) (fun _ _ _ h => h) (Or.inl ⟨by rfl, ?y137⟩) (by assumption) ?r137
        case y137 => (intro w hSw; (try dsimp only at hSw); go_simp; try (with_reducible rfl))
        simp only [List.getElem_toArray, List.getElem_cons_succ, List.getElem_cons_zero, Act.put, List.setIfInBounds_toArray, List.set_cons_zero, List.set_cons_succ]
        refine wpAnyH_take (i := 7) (v := ?v138) rfl (by kernel_rfl) (by kernel_rfl) (by kernel_rfl) (fun _ _ _ h => h) (Or.inl ⟨by rfl, ?y138⟩) (by assumption) ?r138
        case y138 => (intro w hSw; (try dsimp only at hSw); go_simp; try (with_reducible rfl))
        simp only [List.getElem_toArray, List.getElem_cons_succ, List.getElem_cons_zero, Act.put, List.setIfInBounds_toArray, List.set_cons_zero, List.set_cons_succ]
        refine wpAnyH_take (i := 8) (v := ?v139) rfl (by kernel_rfl) (by kernel_rfl) (by kernel_rfl) (fun _ _ _ h => h) (Or.inl ⟨by rfl, ?y139⟩) (by assumption) ?r139
        case y139 => (intro w hSw; (try dsimp only at hSw); go_simp; try (with_reducible rfl))
        simp only [List.getElem_toArray, List.getElem_cons_succ, List.getElem_cons_zero, Act.put, List.setIfInBounds_toArray, List.set_cons_zero, List.set_cons_succ]
        refine wpAnyH_take (i := 9) (v := ?v140) rfl (by kernel_rfl) (by kernel_rfl) (by kernel_rfl) (fun _ _ _ h => h) (Or.inl ⟨by rfl, ?y140⟩) (by assumption) ?r140
        case y140 => (intro w hSw; (try dsimp only at hSw); go_simp; try (with_reducible rfl))
        simp only [List.getElem_toArray, List.getElem_cons_succ, List.getElem_cons_zero, Act.put, List.setIfInBounds_toArray, List.set_cons_zero, List.set_cons_succ]
        refine wpAnyH_take (i := 10) (v := ?v141) rfl (by kernel_rfl) (by kernel_rfl) (by kernel_rfl) (fun _ _ _ h => h) (Or.inl ⟨by rfl, ?y141⟩) (by assumption) ?r141
        case y141 => (intro w hSw; (try dsimp only at hSw); go_simp; try (with_reducible rfl))
        simp only [List.getElem_toArray, List.getElem_cons_succ, List.getElem_cons_zero, Act.put, List.setIfInBounds_toArray, List.set_cons_zero, List.set_cons_succ]
        refine wpAnyH_ready (rs := [11]) (by kernel_rfl) (by simp) ?_
        refine AllReadyH.cons rfl (fun K hK => ?_) AllReadyH.nil
        simp only [List.getElem_toArray, List.getElem_cons_succ, List.getElem_cons_zero]
        go_simp
        go_at_call 73
        refine (CC.out _ hHeld.2).mono ?_
        rintro e w3 ⟨c, rfl, hc, hb⟩
        have hcn : ¬ c < 0 := fun h => HL.out (hc.1 h); have hcn2 : (!decide (c < 0)) = true := by simp [hcn]
        dsimp only
        refine hK.out _ _ ?_ (fun hHeld => ?_)
        · exact keep2s (by assumption) hb
        clear hK K
        try simp only [Act.put, List.setIfInBounds_toArray, List.set_cons_zero, List.set_cons_succ]
        refine wpAnyH_take (i := 12) (v := ?v142) rfl (by kernel_rfl) (by kernel_rfl) (by kernel_rfl) (fun _ _ _ h => h) (Or.inl ⟨by rfl, ?y142⟩) (by assumption) ?r142
        case y142 => (intro w hSw; (try dsimp only at hSw); go_simp; try (with_reducible rfl))
        simp only [List.getElem_toArray, List.getElem_cons_succ, List.getElem_cons_zero, Act.put, List.setIfInBounds_toArray, List.set_cons_zero, List.set_cons_succ]
        refine wpAnyH_take (i := 13) (v := ?v143) rfl (by kernel_rfl) (by kernel_rfl) (by kernel_rfl) (fun _ _ _ h => h) (Or.inl ⟨by rfl, ?y143⟩) (by assumption) ?r143
        case y143 => (intro w hSw; (try dsimp only at hSw); go_simp; try (with_reducible rfl))
        simp only [List.getElem_toArray, List.getElem_cons_succ, List.getElem_cons_zero, Act.put, List.setIfInBounds_toArray, List.set_cons_zero, List.set_cons_succ]
        refine wpAnyH_done (by kernel_rfl) ?_ _
        have HI3 := hide (HI.out.below hHeld.2)
        have HQ : Hid ((a < h + 1 → lt (gi L (h + 1 - 1)) (gi L (nn - (h + 1)))) ∧ (r < m → lt (gi L (pq - r)) (gi L r))) := ⟨fun _ => by rw [HNH.out, show h + 1 - 1 = h by omega, ← HXY.out.1, ← HXY.out.2]; exact O.total _ _ (by rw [HXY.out.1, HXY.out.2]; exact HX.out h pc (by omega) (by omega) (by omega) (by omega)) HL.out, HP.out.2⟩
        clear hHeld k1 k2 hc CC HI
        go_wp2
        go_roundw
        case rel => exact ⟨h + 1, r, by first | rfl | go_num, rfl, by omega, by omega, hrr, HQ.out, HI3.out⟩
        case measure => have := HHE.out; simp [intOf]; omega
    · have hltI : ¬ (s : Int) < (r : Int) := by omega
      obtain rfl : s = r := by omega
      obtain ⟨e, he⟩ : ∃ e, e = nn - s := ⟨_, rfl⟩
      have hwe : IntKind.i64.wrap ((nn : Int) - (s : Int)) = (e : Int) := by rw [wrapN _ (by omega) (by omega)]; omega
      have hb1 : a ≤ s ∧ s ≤ m ∧ m ≤ e ∧ e ≤ b ∧ md ≤ s + (e - m) ∧ s + (e - m) ≤ md := by omega
      have F1 : Hid (a < s → e < b → lt (gi L (s - 1)) (gi L e)) := fun h1 h2 => by rw [he]; exact HP.out.1 (by omega)
      have F2 : Hid (m < e → s < m → lt (gi L (e - 1)) (gi L s)) := fun h1 h2 => by rw [show e - 1 = pq - s by omega]; exact HP.out.2 (by omega)
      clear HP he
      go_upto_region 39 with fail
      go_cut [185] (fun t wx => ∃ bb : Bool, t = .bool bb ∧ Hid (bb = true ↔ s < m ∧ m < e) ∧ RI w0 wx base g cap n L)
      case first =>
        by_cases h1 : s < m
        · have h1I : (s : Int) < (m : Int) := by omega
          by_cases h2 : m < e
          · have h2I : (m : Int) < (e : Int) := by omega
            go_wp2_with fail
            go_meet
            exact ⟨true, rfl, ⟨fun _ => ⟨h1, h2⟩, fun _ => rfl⟩, HI.out⟩
          · have h2I : ¬ (m : Int) < (e : Int) := by omega
            have h2J : decide ((m : Int) < (e : Int)) = false := decide_eq_false h2I
            go_wp2_with fail
            go_meet
            exact ⟨false, rfl, ⟨fun h => absurd h (by simp), fun h => absurd h.2 h2⟩, HI.out⟩
        · first
            | (exfalso; omega)
            | (have h1I : ¬ (s : Int) < (m : Int) := by omega
               have h1J : decide ((s : Int) < (m : Int)) = false := decide_eq_false h1I
               go_wp2_with fail
               go_meet
               exact ⟨false, rfl, ⟨fun h => absurd h (by simp), fun h => absurd h.1 h1⟩, HI.out⟩)
      case rest =>
      as_aux_lemma =>
      obtain ⟨bb, rfl, hbb, hI4⟩ := hcut
      have HBB := hbb
      have HI4 := hide hI4
      clear hI4 HI
      have HI := HI4
      go_upto_if 185 with fail
      go_cut [] (fun wx => ∃ L1, RI w0 wx base g cap n L1 ∧ Hid (∀ t, gi L1 t = gi L (rot s m e t)))
      case first =>
        cases bb with
        | true =>
          have h12 := HBB.out.1 rfl
          have C := hide (rotate_any w0 _ base g cap n L s m e HI.out h12.1 h12.2 (by omega) hn (.func (.func 73) #[] #[.pointer (some pp)]))
          clear HI HI4
          go_wp2_with fail
          refine C.out.mono ?_
          rintro e2 w2 ⟨rfl, L2, g2, hx2⟩
          have H2 := hide (And.intro g2 hx2)
          clear g2 hx2
          go_wp2_with fail
          go_meet
          exact ⟨L2, H2.out.1, H2.out.2⟩
        | false =>
          have hno : s = m ∨ m = e := by
            have h := HBB.out
            by_cases h1 : s < m
            · by_cases h2 : m < e
              · exact absurd (h.2 ⟨h1, h2⟩) (by simp)
              · exact .inr (by omega)
            · exact .inl (by omega)
          have HNO := hide hno
          clear hno
          go_wp2_with fail
          go_meet
          exact ⟨L, HI.out, fun t => by rw [rot_none _ _ _ _ (by omega) (by omega) HNO.out]⟩
      case rest =>
        as_aux_lemma =>
        obtain ⟨L1, g1, hx1⟩ := hcut
        have H1 := hide g1
        have HX1 := hx1
        clear g1 hx1 HI
        have PL1 : Hid (PO a b (gi L) (gi L1)) := (PO.rot (by omega) (by omega) HX1.out : PO s e (gi L) (gi L1)).wide (by omega) (by omega)
        have e1 : Hid (∀ t, t < s → gi L1 t = gi L t) := fun t ht => by rw [HX1.out, rot_out _ _ _ _ (by omega) (by omega) (by omega)]
        have e2 : Hid (∀ t, e ≤ t → gi L1 t = gi L t) := fun t ht => by rw [HX1.out, rot_out _ _ _ _ (by omega) (by omega) (by omega)]
        have e3 : Hid (∀ t, s ≤ t → t < md → gi L1 t = gi L (m + (t - s))) := fun t h1 h2 => by
          rw [HX1.out]
          congr 1
          unfold rot
          rw [if_pos (by omega)]
        have e4 : Hid (∀ t, md ≤ t → t < e → gi L1 t = gi L (s + (t - md))) := fun t h1 h2 => by
          rw [HX1.out]
          congr 1
          unfold rot
          rw [if_neg (by omega), if_pos (by omega)]
          try omega
        have SL1 : Hid (∀ t, t < n → S (gi L1 t)) := po_all PL1.out hb HSS.out
        clear HI4 HBB hbb
        go_upto_region 41 with fail
        go_cut [199] (fun t wx => ∃ bb : Bool, t = .bool bb ∧ Hid (bb = true ↔ a < s ∧ s < md) ∧ RI w0 wx base g cap n L1)
        case first =>
          by_cases h1 : a < s
          · have h1I : (a : Int) < (s : Int) := by omega
            by_cases h2 : s < md
            · have h2I : (s : Int) < (md : Int) := by omega
              go_wp2_with fail
              go_meet
              exact ⟨true, rfl, ⟨fun _ => ⟨h1, h2⟩, fun _ => rfl⟩, H1.out⟩
            · have h2I : ¬ (s : Int) < (md : Int) := by omega
              have h2J : decide ((s : Int) < (md : Int)) = false := decide_eq_false h2I
              go_wp2_with fail
              go_meet
              exact ⟨false, rfl, ⟨fun h => absurd h (by simp), fun h => absurd h.2 h2⟩, H1.out⟩
          · have h1I : ¬ (a : Int) < (s : Int) := by omega
            have h1J : decide ((a : Int) < (s : Int)) = false := decide_eq_false h1I
            go_wp2_with fail
            go_meet
            exact ⟨false, rfl, ⟨fun h => absurd h (by simp), fun h => absurd h.1 h1⟩, H1.out⟩
        case rest =>
        as_aux_lemma =>
        obtain ⟨bb, rfl, hbb, hI4⟩ := hcut
        have HBB := hbb
        have HI4 := hide hI4
        clear hI4 H1
        have H1 := HI4
        go_upto_if 199 with fail
        go_cut [] (fun wx => ∃ L2, RI w0 wx base g cap n L2 ∧ Hid (PO a md (gi L1) (gi L2) ∧ So lt (gi L2) a md))
        case first =>
          cases bb with
          | true =>
            have h12 := HBB.out.1 rfl
            have C := hide (fun w h => IH.out w L1 a s md (by omega) h12.1 h12.2 (by omega) h SL1.out
              (fun i j q1 q2 q3 => by rw [e1.out i (by omega), e1.out j (by omega)]; exact HA.out i j q1 q2 (by omega))
              (fun i j q1 q2 q3 => by rw [e3.out i (by omega) (by omega), e3.out j (by omega) (by omega)]; exact HB.out _ _ (by omega) (by omega) (by omega))
              (fun i j q1 q2 q3 q4 => by rw [e1.out i (by omega), e3.out j (by omega) (by omega)]; exact HX.out _ _ (by omega) (by omega) (by omega) (by omega)))
            go_wp2_with fail
            refine (C.out _ H1.out).mono ?_
            rintro e9 w2 ⟨rfl, L2, g2, hp2, hs2⟩
            have H2 := hide (And.intro g2 (And.intro hp2 hs2))
            clear g2 hp2 hs2 H1 HI4
            go_wp2_with fail
            go_meet
            exact ⟨L2, H2.out.1, H2.out.2.1, H2.out.2.2⟩
          | false =>
            have HS1 : Hid (So lt (gi L1) a md) := by
              have h := HBB.out
              by_cases h1 : a < s
              · by_cases h2 : s < md
                · exact absurd (h.2 ⟨h1, h2⟩) (by simp)
                · exact fun i j q1 q2 q3 => by rw [e1.out i (by omega), e1.out j (by omega)]; exact HA.out i j q1 q2 (by omega)
              · exact fun i j q1 q2 q3 => by rw [e3.out i (by omega) (by omega), e3.out j (by omega) (by omega)]; exact HB.out _ _ (by omega) (by omega) (by omega)
            go_wp2_with fail
            go_meet
            exact ⟨L1, H1.out, PO.refl _ _ _, HS1.out⟩
        case rest =>
          as_aux_lemma =>
          obtain ⟨L2, g2, hx2⟩ := hcut
          have H2 := hide g2
          have HP2 := hx2
          clear g2 hx2 H1 HI4 HBB hbb
          have FIN : Hid (∀ L3 : List Int, PO md b (gi L2) (gi L3) → So lt (gi L3) md b → PO a b (gi L) (gi L3) ∧ So lt (gi L3) a b) := fun L3 p3 s3 =>
            ⟨(PL1.out.trans (HP2.out.1.wide (Nat.le_refl _) (by omega))).trans (p3.wide (by omega) (Nat.le_refl _)), so_halves O HA.out HB.out hb1.1 hb1.2.1 hb1.2.2.1 hb1.2.2.2.1 (by omega) F1.out F2.out HX1.out HP2.out.1 HP2.out.2 p3 s3⟩
          have l2 : Hid (∀ t, md ≤ t → gi L2 t = gi L1 t) := fun t ht => HP2.out.1.out t (by omega)
          by_cases h1 : md < e
          · have h1I : (md : Int) < (e : Int) := by omega
            by_cases h2 : e < b
            · have h2I : (e : Int) < (b : Int) := by omega
              have C := hide (fun w h => IH.out w L2 md e b (by omega) h1 h2 hb h (po_all HP2.out.1 (by omega) SL1.out)
                (fun i j q1 q2 q3 => by rw [l2.out i q1, l2.out j (by omega), e4.out i (by omega) (by omega), e4.out j (by omega) (by omega)]; exact HA.out _ _ (by omega) (by omega) (by omega))
                (fun i j q1 q2 q3 => by rw [l2.out i (by omega), l2.out j (by omega), e2.out i (by omega), e2.out j (by omega)]; exact HB.out _ _ (by omega) (by omega) (by omega))
                (fun i j q1 q2 q3 q4 => by rw [l2.out i (by omega), l2.out j (by omega), e4.out i (by omega) (by omega), e2.out j (by omega)]; exact HX.out _ _ (by omega) (by omega) (by omega) (by omega)))
              go_wp2_with fail
              refine (C.out _ H2.out).mono ?_
              rintro e9 w2 ⟨rfl, L3, g3, hp3, hs3⟩
              have H3 := hide (And.intro g3 (And.intro hp3 hs3))
              clear g3 hp3 hs3 H2
              go_wp2
              go_end0
              exact ⟨rfl, L3, H3.out.1, FIN.out L3 H3.out.2.1 H3.out.2.2⟩
            · have h2I : ¬ (e : Int) < (b : Int) := by omega
              go_wp2
              go_end0
              exact ⟨rfl, L2, H2.out, FIN.out L2 (PO.refl _ _ _) (fun i j q1 q2 q3 => by rw [l2.out i q1, l2.out j (by omega), e4.out i (by omega) (by omega), e4.out j (by omega) (by omega)]; exact HA.out _ _ (by omega) (by omega) (by omega))⟩
          · have h1I : ¬ (md : Int) < (e : Int) := by omega
            go_wp2
            go_end0
            exact ⟨rfl, L2, H2.out, FIN.out L2 (PO.refl _ _ _) (fun i j q1 q2 q3 => by rw [l2.out i q1, l2.out j (by omega), e2.out i (by omega), e2.out j (by omega)]; exact HB.out _ _ (by omega) (by omega) (by omega))⟩
end Go.Proofs.Ytohcjafklfemfam.SrtI

namespace Go.Proofs.Ytohcjafklfemfam.SrtI
open Go.RowKit L1 Srt
set_option linter.unusedVariables false

theorem sym_any (w0 : World) (base g cap n : Nat) (pp : Addr) (lt : Int → Int → Prop) (tag : Int → Nat) (S : Int → Prop) (O : Ord lt tag) (hn : n ≤ 1048576) (hC : ∀ wx x y, Below g w0 wx → S x → S y → tag x < tag y → Calls Try.prog 73 #[.int .i64 y, .int .i64 x, .pointer (some pp)] wx fun e w' => ∃ c : Int, e = .returned (.int .i64 c) ∧ (c < 0 ↔ lt y x) ∧ Below wx.heap.size wx w') : ∀ (d : Nat) (w : World) (L : List Int) (a m b : Nat), b - a ≤ d → a < m → m < b → b ≤ n → RI w0 w base g cap n L → (∀ t, t < n → S (gi L t)) → So lt (gi L) a m → So lt (gi L) m b → Cr tag (gi L) a m b →
    Calls Try.prog 97 #[.slice (some ⟨g, 0, none⟩) n cap, .int .i64 a, .int .i64 m, .int .i64 b, (.func (.func 73) #[] #[.pointer (some pp)])] w fun e w' => e = .returned (.tuple #[]) ∧ ∃ L', RI w0 w' base g cap n L' ∧ PO a b (gi L) (gi L') ∧ So lt (gi L') a b
  | 0, w, L, a, m, b, hd, ham, hmb, hb, hR, hS, hA, hB, hX => by omega
  | d + 1, w, L, a, m, b, hd, ham, hmb, hb, hR, hS, hA, hB, hX => by
    by_cases h1 : m = a + 1
    · exact sym_one w0 base g cap n pp lt tag S O hn hC w L a m b ham hmb hb h1 hR hS hA hB hX
    · by_cases h2 : b = m + 1
      · exact sym_last w0 base g cap n pp lt tag S O hn hC w L a m b ham hmb hb h2 h1 hR hS hA hB hX
      · by_cases h3 : (a + b) / 2 < m
        · exact sym_big w0 base g cap n pp lt tag S O hn hC w L a m b ham hmb hb h1 h2 h3 (fun w L p q r h4 => sym_any w0 base g cap n pp lt tag S O hn hC d w L p q r (by omega)) hR hS hA hB hX
        · exact sym_small w0 base g cap n pp lt tag S O hn hC w L a m b ham hmb hb h1 h2 h3 (fun w L p q r h4 => sym_any w0 base g cap n pp lt tag S O hn hC d w L p q r (by omega)) hR hS hA hB hX
end Go.Proofs.Ytohcjafklfemfam.SrtI

namespace Go.Proofs.Ytohcjafklfemfam.Srt
set_option linter.unusedVariables false

theorem mul_step {k c e : Nat} (hc : k ∣ c) (he : k ∣ e) (h : c < e) : c + k ≤ e := by
  obtain ⟨p, rfl⟩ := hc
  obtain ⟨q, rfl⟩ := he
  have h1 : p < q := Nat.lt_of_mul_lt_mul_left h
  have h2 := Nat.mul_le_mul_left k h1
  rwa [Nat.mul_succ] at h2
variable {α : Type} {lt : α → α → Prop} {tag : α → Nat}
/-- Each block of k is in order. -/
def SB (lt : α → α → Prop) (k n : Nat) (L : Nat → α) : Prop := ∀ c, k ∣ c → So lt L c (min (c + k) n)
/-- What stands ahead of a block's beginning was there earlier. -/
def TB (tag : α → Nat) (k n : Nat) (L : Nat → α) : Prop := ∀ c, k ∣ c → ∀ i j, i < c → c ≤ j → j < n → tag (L i) < tag (L j)
theorem TB.po {k n c d : Nat} {L L' : Nat → α} (h : TB tag k n L) (hk : 0 < k) (hc : k ∣ c) (hp : PO c d L L') (hd : d ≤ c + k) (hdn : d ≤ n) : TB tag k n L' := fun e he i j hi hj hjn => by
  have h1 : ∃ u, u < e ∧ L' i = L u := by
    by_cases q : c ≤ i ∧ i < d
    · obtain ⟨u, hu, eu⟩ := hp.src i q
      exact ⟨u, by have := mul_step hc he (by omega); omega, eu⟩
    · exact ⟨i, hi, hp.out i q⟩
  have h2 : ∃ v, e ≤ v ∧ v < n ∧ L' j = L v := by
    by_cases q : c ≤ j ∧ j < d
    · obtain ⟨v, hv, ev⟩ := hp.src j q
      refine ⟨v, ?_, by omega, ev⟩
      by_cases hec : e ≤ c
      · omega
      · have := mul_step hc he (by omega); omega
    · exact ⟨j, hj, hjn, hp.out j q⟩
  obtain ⟨u, hu, eu⟩ := h1
  obtain ⟨v, hv, hvn, ev⟩ := h2
  rw [eu, ev]
  exact h e he u v hu hv hvn
theorem TB.two {k n : Nat} {L : Nat → α} (h : TB tag k n L) : TB tag (2 * k) n L := fun c hc => h c (Nat.dvd_trans ⟨2, by omega⟩ hc)
/-- All blocks up to a, and a last one. -/
theorem sb_all {k n a : Nat} {L : Nat → α} (hk : 0 < k) (ha : k ∣ a) (hna : n ≤ a + k) (h1 : ∀ c, k ∣ c → c + k ≤ a → So lt L c (c + k)) (h2 : So lt L a n) : SB lt k n L := fun c hc => by
  by_cases e : c < a
  · have := mul_step hc ha e
    exact (h1 c hc this).sub (Nat.le_refl _) (Nat.min_le_left _ _)
  · by_cases e2 : c = a
    · subst e2; exact h2.sub (Nat.le_refl _) (Nat.min_le_right _ _)
    · have := mul_step ha hc (by omega)
      intro i j h3 h4 h5
      have := Nat.min_le_right (c + k) n
      omega
theorem so_same {L L' : Nat → α} {a b : Nat} (h : So lt L a b) (he : ∀ t, a ≤ t → t < b → L' t = L t) : So lt L' a b := fun i j h1 h2 h3 => by
  rw [he i h1 (by omega), he j (by omega) h3]; exact h i j h1 h2 h3
/-- One block more is in order. -/
theorem so_more {k a b : Nat} {L L' : Nat → α} (ha : k ∣ a) (hk : 0 < k) (h1 : ∀ c, k ∣ c → c + k ≤ a → So lt L c (c + k)) (hp : PO a b L L') (h2 : So lt L' a b) (hb : b = a + k) : ∀ c, k ∣ c → c + k ≤ b → So lt L' c (c + k) := fun c hc hcb => by
  by_cases e : c = a
  · subst e; rw [← hb]; exact h2
  · have hca : c + k ≤ a := by
      by_cases h3 : c < a
      · exact mul_step hc ha h3
      · have := mul_step ha hc (by omega); omega
    exact so_same (h1 c hc hca) (fun t h4 h5 => hp.out t (by omega))
end Go.Proofs.Ytohcjafklfemfam.Srt
