/-
  Contract: spec.l15Own.
-/
import Derived.Test.YtfmfnlpajoikmanL15App
import Derived.Test.YtfmfnlpajoikmanL15Help
import Derived.Test.YtfmfnlpajoikmanSITo
import Derived.Deep.DeepCutAuto
namespace Go.Proofs.Ytfmfnlpajoikman.L15
open Go.RowKit L1 Own Sli
set_option linter.unusedVariables false

set_option maxRecDepth 100000 in
set_option maxHeartbeats 8000000 in
theorem l15Own_any (a : Option Addr) (L : List (List Int)) (n cap : Nat) (B : Int) (w : World) (hn : L.length = n) (hs : SlSI w a L) (hn2 : n ≤ 1048576) (hsz : ∀ i, i < L.length → (L.getD i []).length ≤ 1048576 ∧ 0 < (L.getD i []).length) :
    Calls Try.prog 35 #[.agg #[.slice a n cap, .int .i64 B]] w fun e w' => ∃ v, e = .returned (.agg #[v, .int .i64 B]) ∧ RH w w' v L := by
  obtain ⟨i1, hi1, hy0, hy1, hy2⟩ := info_parts info_ints
  have HS := hide hs
  have HN := hide hn
  have HSZ := hide hsz
  have G3 := blk_three w (skO (.slice a n cap) B) (skO (.slice none 0 0) 0) (skO (.slice none 0 0) B)
  have BB := ((((Below.refl w.heap.size w).alloc (Nat.le_refl _) (skO (.slice a n cap) B)).alloc (by simp) (skO (.slice none 0 0) 0)).alloc (by simp; omega) (skO (.slice none 0 0) B))
  obtain ⟨W0, hW0⟩ : ∃ W0, ((w.alloc (skO (.slice a n cap) B)).alloc (skO (.slice none 0 0) 0)).alloc (skO (.slice none 0 0) B) = W0 := ⟨_, rfl⟩
  rw [hW0] at G3 BB
  have HW0 := hide hW0
  have HG3 := hide G3
  have HBB := hide BB
  clear hs hn hsz G3 BB hW0
  go_enter Try.func35, Try.ntmps35
  go_upto_region 2 with fail
  rw [show ((w.alloc (.cells #[.slice a n cap, .int .i64 B] 26)).alloc (.cells #[.slice none 0 0, .int .i64 0] 26)).alloc (.cells #[.slice none 0 0, .int .i64 B] 26) = W0 from HW0.out]
  clear HW0
  obtain ⟨b3, b2, b1, bz⟩ := HG3.out
  obtain ⟨c0, c1, _, _⟩ := blkp b1
  have H3 := hide b3
  have H2 := hide b2
  clear HG3 b3 b2 b1
  have hN2 : (n : Int) ≤ 1048576 := by omega
  go_wp2
  clear c0 c1
  go_loopw [12] (fun i wr => ∃ (k : Nat) (v : Value) (M : List PR), k ≤ n ∧ i = .int .i64 k ∧ Hid (wr.heap[w.heap.size + 1 + 1]? = some (skO v B)) ∧ Hid (wr.heap[w.heap.size + 1]? = some (skO (.slice none 0 0) 0)) ∧ Hid (OwR wr (w.heap.size + 3) v k M) ∧ Hid (rws M = L.take k) ∧ Hid (w.heap.size + 3 ≤ wr.heap.size) ∧ Hid (Below w.heap.size w wr)) (fun i _ => n - (intOf i).toNat)
  case atStart => exact ⟨0, .slice none 0 0, [], Nat.zero_le _, rfl, H3.out, H2.out, ⟨rfl, World.ownsRow_nil _ _ _ _, fun i hi => absurd hi (Nat.not_lt_zero _), fun i j _ hj => absurd hj (Nat.not_lt_zero _)⟩, rfl, Nat.le_of_eq bz.symm, HBB.out⟩
  case round =>
    obtain ⟨k, v, M, hk, rfl, H3, H2, O, HM, HZ, BW⟩ := hrel
    by_cases hlt : k < n
    · obtain ⟨b, off, rfl, ai, ci, hcell, hsl⟩ := HS.out.below BW.out k (by rw [HN.out]; exact hlt)
      obtain ⟨hxl, hx0⟩ := HSZ.out k (by rw [HN.out]; exact hlt)
      obtain ⟨x, hp⟩ : ∃ x, x = gi L k := ⟨_, rfl⟩
      rw [show L.getD k [] = x from hp.symm] at hcell hsl hxl hx0
      obtain ⟨m, hm⟩ : ∃ m, m = x.length := ⟨_, rfl⟩
      rw [← hm] at hcell hxl hx0
      have hltI : (k : Int) < (n : Int) := by omega
      have HP := hide hp
      have HMM := hide hm
      have hX := hide hxl
      have HL4 := hide hsl
      clear hsl hp hm hxl
      go_upto_region 5 with fail
      clear hcell
      refine wp_region_held_drew (S := (fun wx => Below w.heap.size w wx)) (by kernel_rfl) BW.out.drew (fun hHeld => ?_)
      refine wpAnyH_take (i := 0) (v := ?v1) rfl (by kernel_rfl) (by kernel_rfl) (by kernel_rfl) (fun _ _ _ h => h) (Or.inl ⟨by rfl, ?y1⟩) (by assumption) ?r1
      case y1 => (intro w hSw; (try dsimp only at hSw); go_simp; try (with_reducible rfl))
      simp only [List.getElem_toArray, List.getElem_cons_zero, Act.put, List.setIfInBounds_toArray, List.set_cons_zero, List.set_cons_succ]
      refine wpAnyH_take (i := 3) (v := ?v2) rfl (by kernel_rfl) (by kernel_rfl) (by kernel_rfl) (fun _ _ _ h => h) (Or.inl ⟨by rfl, ?y2⟩) (by assumption) ?r2
      case y2 => (intro w hSw; (try dsimp only at hSw); go_simp; try (with_reducible rfl))
      simp only [List.getElem_toArray, List.getElem_cons_succ, List.getElem_cons_zero, Act.put, List.setIfInBounds_toArray, List.set_cons_zero, List.set_cons_succ]
      refine wpAnyH_ready (rs := [1, 2]) (by kernel_rfl) (by simp) ?_
      refine AllReadyH.cons rfl (fun K hK => ?_) (AllReadyH.cons rfl (fun K hK => ?_) AllReadyH.nil)
      · simp only [List.getElem_toArray, List.getElem_cons_succ, List.getElem_cons_zero]
        obtain ⟨r0, r1, _, _⟩ := blkp H3.out
        go_simp
        refine hK.out _ _ ?_ (fun hHeld => ?_)
        · exact hHeld
        clear hK K r0 r1
        try simp only [Act.put, List.setIfInBounds_toArray, List.set_cons_zero, List.set_cons_succ]
        refine wpAnyH_ready (rs := [2]) (by kernel_rfl) (by simp) ?_
        refine AllReadyH.cons rfl (fun K hK => ?_) AllReadyH.nil
        simp only [List.getElem_toArray, List.getElem_cons_succ, List.getElem_cons_zero]
        rw [if_pos (show Region.wanted _ _ = true from rfl)]
        refine oper_build0I rfl ?_
        obtain ⟨V, hV⟩ : ∃ V, wr.drew.alloc (.cells #[] 3) = V := ⟨_, rfl⟩
        have EV := hide (show Below wr.heap.size wr V by rw [← hV]; exact ((Below.refl wr.heap.size wr).drew).alloc (Nat.le_refl _) _)
        have DV := hide (show V.ownsRow wr.heap.size 3 1 (.slice (some ⟨wr.heap.size, 0, none⟩) 0 0) 0 [] by rw [← hV]; exact own_emptyC wr.drew wr.heap.size (Nat.le_refl _))
        rw [hV]
        refine hK.out _ _ ?_ (fun hHeld => ?_)
        · exact BW.out.trans (EV.out.mono BW.out.size)
        clear hK K hV
        try simp only [Act.put, List.setIfInBounds_toArray, List.set_cons_zero, List.set_cons_succ]
        refine wpAnyH_ready (rs := [4]) (by kernel_rfl) (by simp) ?_
        refine AllReadyH.cons rfl (fun K hK => ?_) AllReadyH.nil
        simp only [List.getElem_toArray, List.getElem_cons_succ, List.getElem_cons_zero]
        rw [if_pos (show Region.wanted _ _ = true from rfl)]
        refine oper_append_copyI _ _ rfl wr.heap.size (some ⟨wr.heap.size, 0, none⟩) ai 0 m ci x HMM.out.symm hX.out rfl DV.out rfl (HL4.out.below EV.out) EV.out.size ?_
        intro a' c' w6 ho6 hg6
        have Ew6 := hide (show Below wr.heap.size wr w6 from EV.out.grown hg6 EV.out.size (fun q hq => by simp [Value.ownBlock] at hq; omega))
        have I6 := hide ho6
        refine hK.out _ _ ?_ (fun hHeld => ?_)
        · exact BW.out.trans (Ew6.out.mono BW.out.size)
        clear hK K ho6 hg6
        try simp only [Act.put, List.setIfInBounds_toArray, List.set_cons_zero, List.set_cons_succ]
        refine wpAnyH_ready (rs := [5]) (by kernel_rfl) (by simp) ?_
        refine AllReadyH.cons rfl (fun K hK => ?_) AllReadyH.nil
        simp only [List.getElem_toArray, List.getElem_cons_succ, List.getElem_cons_zero]
        obtain ⟨W6, hW6⟩ : ∃ W6, w6.alloc (.cells #[.slice a' m c'] 41) = W6 := ⟨_, rfl⟩
        have e6 : Below w6.heap.size w6 W6 := by rw [← hW6]; exact (Below.refl _ _).alloc (Nat.le_refl _) _
        have C6 := hide (show ∀ j u, [.slice a' m c'][j]? = some u → W6.cell? ((⟨w6.heap.size, 0, none⟩ : Addr).add j) = some u by rw [← hW6]; exact cell_one_newR _ _ _)
        have EW6 := hide (Ew6.out.trans (e6.mono Ew6.out.size))
        have J6 := hide (own_belO I6.out e6)
        clear e6
        go_simp
        refine hK.out _ _ ?_ (fun hHeld => ?_)
        · exact BW.out.trans (EW6.out.mono BW.out.size)
        clear hK K hW6
        try simp only [Act.put, List.setIfInBounds_toArray, List.set_cons_zero, List.set_cons_succ]
        refine wpAnyH_ready (rs := [6]) (by kernel_rfl) (by simp) ?_
        refine AllReadyH.cons rfl (fun K hK => ?_) AllReadyH.nil
        simp only [List.getElem_toArray, List.getElem_cons_succ, List.getElem_cons_zero]
        rw [if_pos (show Region.wanted _ _ = true from rfl)]
        have ZR := hide (show w.heap.size + 3 ≤ wr.heap.size from HZ.out)
        refine oper_append_at _ _ 22 rfl (w.heap.size + 3) 41 i1 (.slice none 0 0) 1 24 Try.underlying22 hi1 hy0 hy1 hy2 rfl (by decide) v k (flatR M) rfl (own_belO O.out.row EW6.out) ⟨w6.heap.size, 0, none⟩ 1 1 [.slice a' m c'] rfl rfl C6.out (by intro u hu; simp at hu; rcases hu with rfl; rfl) (by unfold maxLen; omega) (by omega) (by have h1 := HZ.out; have h2 := EW6.out.size; omega) ?_
        intro v7 w7 hrow7 hg7 _
        have hlo := fun b hb => (L8.own_lt O.out.row b hb)
        have hneO : v.ownBlock ≠ some (w.heap.size + 1 + 1) := fun e => by have := (hlo _ e).1; omega
        have hneR : v.ownBlock ≠ some (w.heap.size + 1) := fun e => by have := (hlo _ e).1; omega
        have R7 := hide (blk_grown (blk_kept H3.out EW6.out) hg7 hneO)
        have Z7 := hide (blk_grown (blk_kept H2.out EW6.out) hg7 hneR)
        have O7 := hide ((O.out.below EW6.out).more x (.slice a' m c') (by show W6.ownsRow _ _ _ _ x.length _; rw [← HMM.out]; exact own_baseR J6.out HZ.out) (fun i hi b h1 h2 => by have h3 := (L8.own_lt (O.out.idx i hi) b h2).2; have h4 := (L8.own_lt J6.out b h1).1; omega) hrow7 hg7)
        obtain ⟨a7, c7, rfl, _⟩ := O7.out.form
        have B7 := hide ((BW.out.trans (EW6.out.mono BW.out.size)).grown hg7 (Nat.le_trans BW.out.size EW6.out.size) (fun b hb => by have := (hlo b hb).1; omega))
        have Q7 := hide (show wr.heap.size ≤ w7.heap.size from Nat.le_trans EW6.out.size hg7.size)
        refine hK.out _ _ ?_ (fun hHeld => ?_)
        · exact B7.out
        clear hK K hrow7 hg7 hneO hneR hlo
        try simp only [Act.put, List.setIfInBounds_toArray, List.set_cons_zero, List.set_cons_succ]
        refine wpAnyH_take (i := 7) (v := ?v3) rfl (by kernel_rfl) (by kernel_rfl) (by kernel_rfl) (fun _ _ _ h => h) (Or.inl ⟨by rfl, ?y3⟩) (by assumption) ?r3
        case y3 => (intro w hSw; (try dsimp only at hSw); go_simp; try (with_reducible rfl))
        simp only [List.getElem_toArray, List.getElem_cons_succ, List.getElem_cons_zero, Act.put, List.setIfInBounds_toArray, List.set_cons_zero, List.set_cons_succ]
        refine wpAnyH_ready (rs := [8]) (by kernel_rfl) (by simp) ?_
        refine AllReadyH.cons rfl (fun K hK => ?_) AllReadyH.nil
        simp only [List.getElem_toArray, List.getElem_cons_succ, List.getElem_cons_zero]
        obtain ⟨r0, r1, q0, q1⟩ := blkp R7.out
        go_simp
        have ne32 : (⟨w.heap.size + 1 + 1, 0, none⟩ : Addr).block ≠ w.heap.size + 1 := by show w.heap.size + 1 + 1 ≠ _; omega
        have R8 := hide (set1 (a' := (.slice a7 (k + 1) c7)) R7.out)
        have Z8 := hide (set_old (p := ⟨w.heap.size + 1 + 1, 0, none⟩) (v := (.slice a7 (k + 1) c7)) Z7.out ne32)
        have O8 := hide (O7.out.setC ⟨w.heap.size + 1 + 1, 0, none⟩ (.slice a7 (k + 1) c7) (by show w.heap.size + 1 + 1 < _; omega))
        have B8 := hide (B7.out.setCell (p := ⟨w.heap.size + 1 + 1, 0, none⟩) (by show w.heap.size ≤ w.heap.size + 1 + 1; omega) (.slice a7 (k + 1) c7))
        refine hK.out _ _ ?_ (fun hHeld => ?_)
        · exact B8.out
        clear hK K ne32 r0 r1 q0 q1
        try simp only [Act.put, List.setIfInBounds_toArray, List.set_cons_zero, List.set_cons_succ]
        refine wpAnyH_done (by kernel_rfl) ?_ _
        clear hHeld
        have HR := hide (show rws (M ++ [(x, .slice a' m c')]) = L.take (k + 1) by rw [rws_more, HM.out, take_more (by rw [HN.out]; exact hlt), HP.out])
        have HZ8 := hide (show w.heap.size + 3 ≤ (w7.setCell ⟨w.heap.size + 1 + 1, 0, none⟩ (.slice a7 (k + 1) c7)).heap.size by rw [World.size_setCell]; have h1 := HZ.out; have h2 := Q7.out; omega)
        go_wp2
        go_roundw
        case rel => exact ⟨k + 1, _, _, by omega, by go_num, R8.out, Z8.out, O8.out, HR.out, HZ8.out, B8.out⟩
        case measure => simp [intOf]; omega
      · simp only [List.getElem_toArray, List.getElem_cons_succ, List.getElem_cons_zero]
        rw [if_pos (show Region.wanted _ _ = true from rfl)]
        refine oper_build0I rfl ?_
        obtain ⟨V, hV⟩ : ∃ V, wr.drew.alloc (.cells #[] 3) = V := ⟨_, rfl⟩
        have EV := hide (show Below wr.heap.size wr V by rw [← hV]; exact ((Below.refl wr.heap.size wr).drew).alloc (Nat.le_refl _) _)
        have DV := hide (show V.ownsRow wr.heap.size 3 1 (.slice (some ⟨wr.heap.size, 0, none⟩) 0 0) 0 [] by rw [← hV]; exact own_emptyC wr.drew wr.heap.size (Nat.le_refl _))
        rw [hV]
        refine hK.out _ _ ?_ (fun hHeld => ?_)
        · exact BW.out.trans (EV.out.mono BW.out.size)
        clear hK K hV
        try simp only [Act.put, List.setIfInBounds_toArray, List.set_cons_zero, List.set_cons_succ]
        refine wpAnyH_ready (rs := [1, 4]) (by kernel_rfl) (by simp) ?_
        refine AllReadyH.cons rfl (fun K hK => ?_) (AllReadyH.cons rfl (fun K hK => ?_) AllReadyH.nil)
        · simp only [List.getElem_toArray, List.getElem_cons_succ, List.getElem_cons_zero]
          obtain ⟨r0, r1, _, _⟩ := blkp (blk_kept H3.out EV.out)
          go_simp
          refine hK.out _ _ ?_ (fun hHeld => ?_)
          · exact hHeld
          clear hK K r0 r1
          try simp only [Act.put, List.setIfInBounds_toArray, List.set_cons_zero, List.set_cons_succ]
          refine wpAnyH_ready (rs := [4]) (by kernel_rfl) (by simp) ?_
          refine AllReadyH.cons rfl (fun K hK => ?_) AllReadyH.nil
          simp only [List.getElem_toArray, List.getElem_cons_succ, List.getElem_cons_zero]
          rw [if_pos (show Region.wanted _ _ = true from rfl)]
          refine oper_append_copyI _ _ rfl wr.heap.size (some ⟨wr.heap.size, 0, none⟩) ai 0 m ci x HMM.out.symm hX.out rfl DV.out rfl (HL4.out.below EV.out) EV.out.size ?_
          intro a' c' w6 ho6 hg6
          have Ew6 := hide (show Below wr.heap.size wr w6 from EV.out.grown hg6 EV.out.size (fun q hq => by simp [Value.ownBlock] at hq; omega))
          have I6 := hide ho6
          refine hK.out _ _ ?_ (fun hHeld => ?_)
          · exact BW.out.trans (Ew6.out.mono BW.out.size)
          clear hK K ho6 hg6
          try simp only [Act.put, List.setIfInBounds_toArray, List.set_cons_zero, List.set_cons_succ]
          refine wpAnyH_ready (rs := [5]) (by kernel_rfl) (by simp) ?_
          refine AllReadyH.cons rfl (fun K hK => ?_) AllReadyH.nil
          simp only [List.getElem_toArray, List.getElem_cons_succ, List.getElem_cons_zero]
          obtain ⟨W6, hW6⟩ : ∃ W6, w6.alloc (.cells #[.slice a' m c'] 41) = W6 := ⟨_, rfl⟩
          have e6 : Below w6.heap.size w6 W6 := by rw [← hW6]; exact (Below.refl _ _).alloc (Nat.le_refl _) _
          have C6 := hide (show ∀ j u, [.slice a' m c'][j]? = some u → W6.cell? ((⟨w6.heap.size, 0, none⟩ : Addr).add j) = some u by rw [← hW6]; exact cell_one_newR _ _ _)
          have EW6 := hide (Ew6.out.trans (e6.mono Ew6.out.size))
          have J6 := hide (own_belO I6.out e6)
          clear e6
          go_simp
          refine hK.out _ _ ?_ (fun hHeld => ?_)
          · exact BW.out.trans (EW6.out.mono BW.out.size)
          clear hK K hW6
          try simp only [Act.put, List.setIfInBounds_toArray, List.set_cons_zero, List.set_cons_succ]
          refine wpAnyH_ready (rs := [6]) (by kernel_rfl) (by simp) ?_
          refine AllReadyH.cons rfl (fun K hK => ?_) AllReadyH.nil
          simp only [List.getElem_toArray, List.getElem_cons_succ, List.getElem_cons_zero]
          rw [if_pos (show Region.wanted _ _ = true from rfl)]
          have ZR := hide (show w.heap.size + 3 ≤ wr.heap.size from HZ.out)
          refine oper_append_at _ _ 22 rfl (w.heap.size + 3) 41 i1 (.slice none 0 0) 1 24 Try.underlying22 hi1 hy0 hy1 hy2 rfl (by decide) v k (flatR M) rfl (own_belO O.out.row EW6.out) ⟨w6.heap.size, 0, none⟩ 1 1 [.slice a' m c'] rfl rfl C6.out (by intro u hu; simp at hu; rcases hu with rfl; rfl) (by unfold maxLen; omega) (by omega) (by have h1 := HZ.out; have h2 := EW6.out.size; omega) ?_
          intro v7 w7 hrow7 hg7 _
          have hlo := fun b hb => (L8.own_lt O.out.row b hb)
          have hneO : v.ownBlock ≠ some (w.heap.size + 1 + 1) := fun e => by have := (hlo _ e).1; omega
          have hneR : v.ownBlock ≠ some (w.heap.size + 1) := fun e => by have := (hlo _ e).1; omega
          have R7 := hide (blk_grown (blk_kept H3.out EW6.out) hg7 hneO)
          have Z7 := hide (blk_grown (blk_kept H2.out EW6.out) hg7 hneR)
          have O7 := hide ((O.out.below EW6.out).more x (.slice a' m c') (by show W6.ownsRow _ _ _ _ x.length _; rw [← HMM.out]; exact own_baseR J6.out HZ.out) (fun i hi b h1 h2 => by have h3 := (L8.own_lt (O.out.idx i hi) b h2).2; have h4 := (L8.own_lt J6.out b h1).1; omega) hrow7 hg7)
          obtain ⟨a7, c7, rfl, _⟩ := O7.out.form
          have B7 := hide ((BW.out.trans (EW6.out.mono BW.out.size)).grown hg7 (Nat.le_trans BW.out.size EW6.out.size) (fun b hb => by have := (hlo b hb).1; omega))
          have Q7 := hide (show wr.heap.size ≤ w7.heap.size from Nat.le_trans EW6.out.size hg7.size)
          refine hK.out _ _ ?_ (fun hHeld => ?_)
          · exact B7.out
          clear hK K hrow7 hg7 hneO hneR hlo
          try simp only [Act.put, List.setIfInBounds_toArray, List.set_cons_zero, List.set_cons_succ]
          refine wpAnyH_take (i := 7) (v := ?v4) rfl (by kernel_rfl) (by kernel_rfl) (by kernel_rfl) (fun _ _ _ h => h) (Or.inl ⟨by rfl, ?y4⟩) (by assumption) ?r4
          case y4 => (intro w hSw; (try dsimp only at hSw); go_simp; try (with_reducible rfl))
          simp only [List.getElem_toArray, List.getElem_cons_succ, List.getElem_cons_zero, Act.put, List.setIfInBounds_toArray, List.set_cons_zero, List.set_cons_succ]
          refine wpAnyH_ready (rs := [8]) (by kernel_rfl) (by simp) ?_
          refine AllReadyH.cons rfl (fun K hK => ?_) AllReadyH.nil
          simp only [List.getElem_toArray, List.getElem_cons_succ, List.getElem_cons_zero]
          obtain ⟨r0, r1, q0, q1⟩ := blkp R7.out
          go_simp
          have ne32 : (⟨w.heap.size + 1 + 1, 0, none⟩ : Addr).block ≠ w.heap.size + 1 := by show w.heap.size + 1 + 1 ≠ _; omega
          have R8 := hide (set1 (a' := (.slice a7 (k + 1) c7)) R7.out)
          have Z8 := hide (set_old (p := ⟨w.heap.size + 1 + 1, 0, none⟩) (v := (.slice a7 (k + 1) c7)) Z7.out ne32)
          have O8 := hide (O7.out.setC ⟨w.heap.size + 1 + 1, 0, none⟩ (.slice a7 (k + 1) c7) (by show w.heap.size + 1 + 1 < _; omega))
          have B8 := hide (B7.out.setCell (p := ⟨w.heap.size + 1 + 1, 0, none⟩) (by show w.heap.size ≤ w.heap.size + 1 + 1; omega) (.slice a7 (k + 1) c7))
          refine hK.out _ _ ?_ (fun hHeld => ?_)
          · exact B8.out
          clear hK K ne32 r0 r1 q0 q1
          try simp only [Act.put, List.setIfInBounds_toArray, List.set_cons_zero, List.set_cons_succ]
          refine wpAnyH_done (by kernel_rfl) ?_ _
          clear hHeld
          have HR := hide (show rws (M ++ [(x, .slice a' m c')]) = L.take (k + 1) by rw [rws_more, HM.out, take_more (by rw [HN.out]; exact hlt), HP.out])
          have HZ8 := hide (show w.heap.size + 3 ≤ (w7.setCell ⟨w.heap.size + 1 + 1, 0, none⟩ (.slice a7 (k + 1) c7)).heap.size by rw [World.size_setCell]; have h1 := HZ.out; have h2 := Q7.out; omega)
          go_wp2
          go_roundw
          case rel => exact ⟨k + 1, _, _, by omega, by go_num, R8.out, Z8.out, O8.out, HR.out, HZ8.out, B8.out⟩
          case measure => simp [intOf]; omega
        · simp only [List.getElem_toArray, List.getElem_cons_succ, List.getElem_cons_zero]
          rw [if_pos (show Region.wanted _ _ = true from rfl)]
          refine oper_append_copyI _ _ rfl wr.heap.size (some ⟨wr.heap.size, 0, none⟩) ai 0 m ci x HMM.out.symm hX.out rfl DV.out rfl (HL4.out.below EV.out) EV.out.size ?_
          intro a' c' w6 ho6 hg6
          have Ew6 := hide (show Below wr.heap.size wr w6 from EV.out.grown hg6 EV.out.size (fun q hq => by simp [Value.ownBlock] at hq; omega))
          have I6 := hide ho6
          refine hK.out _ _ ?_ (fun hHeld => ?_)
          · exact BW.out.trans (Ew6.out.mono BW.out.size)
          clear hK K ho6 hg6
          try simp only [Act.put, List.setIfInBounds_toArray, List.set_cons_zero, List.set_cons_succ]
          refine wpAnyH_ready (rs := [1, 5]) (by kernel_rfl) (by simp) ?_
          refine AllReadyH.cons rfl (fun K hK => ?_) (AllReadyH.cons rfl (fun K hK => ?_) AllReadyH.nil)
          · simp only [List.getElem_toArray, List.getElem_cons_succ, List.getElem_cons_zero]
            obtain ⟨r0, r1, _, _⟩ := blkp (blk_kept H3.out Ew6.out)
            go_simp
            refine hK.out _ _ ?_ (fun hHeld => ?_)
            · exact hHeld
            clear hK K r0 r1
            try simp only [Act.put, List.setIfInBounds_toArray, List.set_cons_zero, List.set_cons_succ]
            refine wpAnyH_ready (rs := [5]) (by kernel_rfl) (by simp) ?_
            refine AllReadyH.cons rfl (fun K hK => ?_) AllReadyH.nil
            simp only [List.getElem_toArray, List.getElem_cons_succ, List.getElem_cons_zero]
            obtain ⟨W6, hW6⟩ : ∃ W6, w6.alloc (.cells #[.slice a' m c'] 41) = W6 := ⟨_, rfl⟩
            have e6 : Below w6.heap.size w6 W6 := by rw [← hW6]; exact (Below.refl _ _).alloc (Nat.le_refl _) _
            have C6 := hide (show ∀ j u, [.slice a' m c'][j]? = some u → W6.cell? ((⟨w6.heap.size, 0, none⟩ : Addr).add j) = some u by rw [← hW6]; exact cell_one_newR _ _ _)
            have EW6 := hide (Ew6.out.trans (e6.mono Ew6.out.size))
            have J6 := hide (own_belO I6.out e6)
            clear e6
            go_simp
            refine hK.out _ _ ?_ (fun hHeld => ?_)
            · exact BW.out.trans (EW6.out.mono BW.out.size)
            clear hK K hW6
            try simp only [Act.put, List.setIfInBounds_toArray, List.set_cons_zero, List.set_cons_succ]
            refine wpAnyH_ready (rs := [6]) (by kernel_rfl) (by simp) ?_
            refine AllReadyH.cons rfl (fun K hK => ?_) AllReadyH.nil
            simp only [List.getElem_toArray, List.getElem_cons_succ, List.getElem_cons_zero]
            rw [if_pos (show Region.wanted _ _ = true from rfl)]
            have ZR := hide (show w.heap.size + 3 ≤ wr.heap.size from HZ.out)
            refine oper_append_at _ _ 22 rfl (w.heap.size + 3) 41 i1 (.slice none 0 0) 1 24 Try.underlying22 hi1 hy0 hy1 hy2 rfl (by decide) v k (flatR M) rfl (own_belO O.out.row EW6.out) ⟨w6.heap.size, 0, none⟩ 1 1 [.slice a' m c'] rfl rfl C6.out (by intro u hu; simp at hu; rcases hu with rfl; rfl) (by unfold maxLen; omega) (by omega) (by have h1 := HZ.out; have h2 := EW6.out.size; omega) ?_
            intro v7 w7 hrow7 hg7 _
            have hlo := fun b hb => (L8.own_lt O.out.row b hb)
            have hneO : v.ownBlock ≠ some (w.heap.size + 1 + 1) := fun e => by have := (hlo _ e).1; omega
            have hneR : v.ownBlock ≠ some (w.heap.size + 1) := fun e => by have := (hlo _ e).1; omega
            have R7 := hide (blk_grown (blk_kept H3.out EW6.out) hg7 hneO)
            have Z7 := hide (blk_grown (blk_kept H2.out EW6.out) hg7 hneR)
            have O7 := hide ((O.out.below EW6.out).more x (.slice a' m c') (by show W6.ownsRow _ _ _ _ x.length _; rw [← HMM.out]; exact own_baseR J6.out HZ.out) (fun i hi b h1 h2 => by have h3 := (L8.own_lt (O.out.idx i hi) b h2).2; have h4 := (L8.own_lt J6.out b h1).1; omega) hrow7 hg7)
            obtain ⟨a7, c7, rfl, _⟩ := O7.out.form
            have B7 := hide ((BW.out.trans (EW6.out.mono BW.out.size)).grown hg7 (Nat.le_trans BW.out.size EW6.out.size) (fun b hb => by have := (hlo b hb).1; omega))
            have Q7 := hide (show wr.heap.size ≤ w7.heap.size from Nat.le_trans EW6.out.size hg7.size)
            refine hK.out _ _ ?_ (fun hHeld => ?_)
            · exact B7.out
            clear hK K hrow7 hg7 hneO hneR hlo
            try simp only [Act.put, List.setIfInBounds_toArray, List.set_cons_zero, List.set_cons_succ]
            refine wpAnyH_take (i := 7) (v := ?v5) rfl (by kernel_rfl) (by kernel_rfl) (by kernel_rfl) (fun _ _ _ h => h) (Or.inl ⟨by rfl, ?y5⟩) (by assumption) ?r5
            case y5 => (intro w hSw; (try dsimp only at hSw); go_simp; try (with_reducible rfl))
            simp only [List.getElem_toArray, List.getElem_cons_succ, List.getElem_cons_zero, Act.put, List.setIfInBounds_toArray, List.set_cons_zero, List.set_cons_succ]
            refine wpAnyH_ready (rs := [8]) (by kernel_rfl) (by simp) ?_
            refine AllReadyH.cons rfl (fun K hK => ?_) AllReadyH.nil
            simp only [List.getElem_toArray, List.getElem_cons_succ, List.getElem_cons_zero]
            obtain ⟨r0, r1, q0, q1⟩ := blkp R7.out
            go_simp
            have ne32 : (⟨w.heap.size + 1 + 1, 0, none⟩ : Addr).block ≠ w.heap.size + 1 := by show w.heap.size + 1 + 1 ≠ _; omega
            have R8 := hide (set1 (a' := (.slice a7 (k + 1) c7)) R7.out)
            have Z8 := hide (set_old (p := ⟨w.heap.size + 1 + 1, 0, none⟩) (v := (.slice a7 (k + 1) c7)) Z7.out ne32)
            have O8 := hide (O7.out.setC ⟨w.heap.size + 1 + 1, 0, none⟩ (.slice a7 (k + 1) c7) (by show w.heap.size + 1 + 1 < _; omega))
            have B8 := hide (B7.out.setCell (p := ⟨w.heap.size + 1 + 1, 0, none⟩) (by show w.heap.size ≤ w.heap.size + 1 + 1; omega) (.slice a7 (k + 1) c7))
            refine hK.out _ _ ?_ (fun hHeld => ?_)
            · exact B8.out
            clear hK K ne32 r0 r1 q0 q1
            try simp only [Act.put, List.setIfInBounds_toArray, List.set_cons_zero, List.set_cons_succ]
            refine wpAnyH_done (by kernel_rfl) ?_ _
            clear hHeld
            have HR := hide (show rws (M ++ [(x, .slice a' m c')]) = L.take (k + 1) by rw [rws_more, HM.out, take_more (by rw [HN.out]; exact hlt), HP.out])
            have HZ8 := hide (show w.heap.size + 3 ≤ (w7.setCell ⟨w.heap.size + 1 + 1, 0, none⟩ (.slice a7 (k + 1) c7)).heap.size by rw [World.size_setCell]; have h1 := HZ.out; have h2 := Q7.out; omega)
            go_wp2
            go_roundw
            case rel => exact ⟨k + 1, _, _, by omega, by go_num, R8.out, Z8.out, O8.out, HR.out, HZ8.out, B8.out⟩
            case measure => simp [intOf]; omega
          · simp only [List.getElem_toArray, List.getElem_cons_succ, List.getElem_cons_zero]
            obtain ⟨W6, hW6⟩ : ∃ W6, w6.alloc (.cells #[.slice a' m c'] 41) = W6 := ⟨_, rfl⟩
            have e6 : Below w6.heap.size w6 W6 := by rw [← hW6]; exact (Below.refl _ _).alloc (Nat.le_refl _) _
            have C6 := hide (show ∀ j u, [.slice a' m c'][j]? = some u → W6.cell? ((⟨w6.heap.size, 0, none⟩ : Addr).add j) = some u by rw [← hW6]; exact cell_one_newR _ _ _)
            have EW6 := hide (Ew6.out.trans (e6.mono Ew6.out.size))
            have J6 := hide (own_belO I6.out e6)
            clear e6
            go_simp
            refine hK.out _ _ ?_ (fun hHeld => ?_)
            · exact BW.out.trans (EW6.out.mono BW.out.size)
            clear hK K hW6
            try simp only [Act.put, List.setIfInBounds_toArray, List.set_cons_zero, List.set_cons_succ]
            refine wpAnyH_ready (rs := [1]) (by kernel_rfl) (by simp) ?_
            refine AllReadyH.cons rfl (fun K hK => ?_) AllReadyH.nil
            simp only [List.getElem_toArray, List.getElem_cons_succ, List.getElem_cons_zero]
            obtain ⟨r0, r1, _, _⟩ := blkp (blk_kept H3.out EW6.out)
            go_simp
            refine hK.out _ _ ?_ (fun hHeld => ?_)
            · exact hHeld
            clear hK K r0 r1
            try simp only [Act.put, List.setIfInBounds_toArray, List.set_cons_zero, List.set_cons_succ]
            refine wpAnyH_ready (rs := [6]) (by kernel_rfl) (by simp) ?_
            refine AllReadyH.cons rfl (fun K hK => ?_) AllReadyH.nil
            simp only [List.getElem_toArray, List.getElem_cons_succ, List.getElem_cons_zero]
            rw [if_pos (show Region.wanted _ _ = true from rfl)]
            have ZR := hide (show w.heap.size + 3 ≤ wr.heap.size from HZ.out)
            refine oper_append_at _ _ 22 rfl (w.heap.size + 3) 41 i1 (.slice none 0 0) 1 24 Try.underlying22 hi1 hy0 hy1 hy2 rfl (by decide) v k (flatR M) rfl (own_belO O.out.row EW6.out) ⟨w6.heap.size, 0, none⟩ 1 1 [.slice a' m c'] rfl rfl C6.out (by intro u hu; simp at hu; rcases hu with rfl; rfl) (by unfold maxLen; omega) (by omega) (by have h1 := HZ.out; have h2 := EW6.out.size; omega) ?_
            intro v7 w7 hrow7 hg7 _
            have hlo := fun b hb => (L8.own_lt O.out.row b hb)
            have hneO : v.ownBlock ≠ some (w.heap.size + 1 + 1) := fun e => by have := (hlo _ e).1; omega
            have hneR : v.ownBlock ≠ some (w.heap.size + 1) := fun e => by have := (hlo _ e).1; omega
            have R7 := hide (blk_grown (blk_kept H3.out EW6.out) hg7 hneO)
            have Z7 := hide (blk_grown (blk_kept H2.out EW6.out) hg7 hneR)
            have O7 := hide ((O.out.below EW6.out).more x (.slice a' m c') (by show W6.ownsRow _ _ _ _ x.length _; rw [← HMM.out]; exact own_baseR J6.out HZ.out) (fun i hi b h1 h2 => by have h3 := (L8.own_lt (O.out.idx i hi) b h2).2; have h4 := (L8.own_lt J6.out b h1).1; omega) hrow7 hg7)
            obtain ⟨a7, c7, rfl, _⟩ := O7.out.form
            have B7 := hide ((BW.out.trans (EW6.out.mono BW.out.size)).grown hg7 (Nat.le_trans BW.out.size EW6.out.size) (fun b hb => by have := (hlo b hb).1; omega))
            have Q7 := hide (show wr.heap.size ≤ w7.heap.size from Nat.le_trans EW6.out.size hg7.size)
            refine hK.out _ _ ?_ (fun hHeld => ?_)
            · exact B7.out
            clear hK K hrow7 hg7 hneO hneR hlo
            try simp only [Act.put, List.setIfInBounds_toArray, List.set_cons_zero, List.set_cons_succ]
            refine wpAnyH_take (i := 7) (v := ?v6) rfl (by kernel_rfl) (by kernel_rfl) (by kernel_rfl) (fun _ _ _ h => h) (Or.inl ⟨by rfl, ?y6⟩) (by assumption) ?r6
            case y6 => (intro w hSw; (try dsimp only at hSw); go_simp; try (with_reducible rfl))
            simp only [List.getElem_toArray, List.getElem_cons_succ, List.getElem_cons_zero, Act.put, List.setIfInBounds_toArray, List.set_cons_zero, List.set_cons_succ]
            refine wpAnyH_ready (rs := [8]) (by kernel_rfl) (by simp) ?_
            refine AllReadyH.cons rfl (fun K hK => ?_) AllReadyH.nil
            simp only [List.getElem_toArray, List.getElem_cons_succ, List.getElem_cons_zero]
            obtain ⟨r0, r1, q0, q1⟩ := blkp R7.out
            go_simp
            have ne32 : (⟨w.heap.size + 1 + 1, 0, none⟩ : Addr).block ≠ w.heap.size + 1 := by show w.heap.size + 1 + 1 ≠ _; omega
            have R8 := hide (set1 (a' := (.slice a7 (k + 1) c7)) R7.out)
            have Z8 := hide (set_old (p := ⟨w.heap.size + 1 + 1, 0, none⟩) (v := (.slice a7 (k + 1) c7)) Z7.out ne32)
            have O8 := hide (O7.out.setC ⟨w.heap.size + 1 + 1, 0, none⟩ (.slice a7 (k + 1) c7) (by show w.heap.size + 1 + 1 < _; omega))
            have B8 := hide (B7.out.setCell (p := ⟨w.heap.size + 1 + 1, 0, none⟩) (by show w.heap.size ≤ w.heap.size + 1 + 1; omega) (.slice a7 (k + 1) c7))
            refine hK.out _ _ ?_ (fun hHeld => ?_)
            · exact B8.out
            clear hK K ne32 r0 r1 q0 q1
            try simp only [Act.put, List.setIfInBounds_toArray, List.set_cons_zero, List.set_cons_succ]
            refine wpAnyH_done (by kernel_rfl) ?_ _
            clear hHeld
            have HR := hide (show rws (M ++ [(x, .slice a' m c')]) = L.take (k + 1) by rw [rws_more, HM.out, take_more (by rw [HN.out]; exact hlt), HP.out])
            have HZ8 := hide (show w.heap.size + 3 ≤ (w7.setCell ⟨w.heap.size + 1 + 1, 0, none⟩ (.slice a7 (k + 1) c7)).heap.size by rw [World.size_setCell]; have h1 := HZ.out; have h2 := Q7.out; omega)
            go_wp2
            go_roundw
            case rel => exact ⟨k + 1, _, _, by omega, by go_num, R8.out, Z8.out, O8.out, HR.out, HZ8.out, B8.out⟩
            case measure => simp [intOf]; omega
    · obtain rfl : k = n := by omega
      have hltI : ¬ (k : Int) < (k : Int) := by omega
      obtain ⟨r0, r1, _, _⟩ := blkp H3.out
      obtain ⟨z0, z1, y0, y1⟩ := blkp H2.out
      have hL : rws M = L := by rw [HM.out]; exact List.take_of_length_le (by rw [HN.out]; exact Nat.le_refl _)
      have HL := hide hL
      obtain ⟨va, vc, rfl, _⟩ := O.out.form
      have d := blkp (set2 (a' := .slice va k vc) (b' := .int .i64 B) H2.out)
      obtain ⟨d0, d1, _, _⟩ := d
      have lt1 : (⟨w.heap.size + 1, 0, none⟩ : Addr).block < w.heap.size + 3 := by show w.heap.size + 1 < _; omega
      have O9 := hide ((O.out.setC ⟨w.heap.size + 1, 0, none⟩ (.slice va k vc) lt1).setC ⟨w.heap.size + 1, 1, none⟩ (.int .i64 B) (by show w.heap.size + 1 < _; omega))
      have B9 := hide ((BW.out.setCell (p := ⟨w.heap.size + 1, 0, none⟩) (by show w.heap.size ≤ w.heap.size + 1; omega) (.slice va k vc)).setCell (p := ⟨w.heap.size + 1, 1, none⟩) (by show w.heap.size ≤ w.heap.size + 1; omega) (.int .i64 B))
      clear hL
      go_wp2
      refine bodyPost_ret (v := .agg #[.slice va k vc, .int .i64 B]) (by simp [results, Try.f35, go_sem, d0, d1]) rfl ⟨_, rfl, ⟨M, HL.out, ?_⟩, B9.out⟩
      have := O9.out.base (b2 := w.heap.size) (by omega)
      rw [show L.length = k from HN.out]
      exact this
end Go.Proofs.Ytfmfnlpajoikman.L15
