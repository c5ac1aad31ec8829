/-
  Contract: impl.chunkNumbers: of good samples the numbers of their chunk, in new memory, and true; of others no list and false.
-/
import Derived.Test.YtapffbbmofhpoaaDoorL2Parts
import Derived.Test.YtapffbbmofhpoaaDoorL2Good
import Derived.Test.YtapffbbmofhpoaaDoorL2Deltas
import Derived.Test.YtapffbbmofhpoaaDoorL2Keep
import Derived.Deep.AppendLies
namespace Go.Proofs.YtapffbbmofhpoaaDoor.L1
open Go.RowKit
set_option linter.unusedVariables false

/-- A list of one number, made as it stands. -/
theorem one_row (w : World) (x : Int) : (w.alloc (.cells #[.int .i64 x] 3)).ownsRow w.heap.size 3 1 (.slice (some ⟨w.heap.size, 0, none⟩) 1 1) 1 ([x].map (Value.int .i64)) :=
  ⟨rfl, .inr ⟨w.heap.size, 1, #[.int .i64 x], rfl, Nat.le_refl _, World.alloc_heap_new w _, Nat.le_refl _, by unfold maxLen; omega, rfl, rfl⟩⟩

set_option maxRecDepth 100000 in
set_option maxHeartbeats 400000 in
theorem chunkNumbers_no (a : Option Addr) (l : List (Int × Int)) (n cap : Nat) (w : World) (hn : l.length = n) (hs : Sl2 w a l) (hn2 : n ≤ 1048576) (hno : ¬ GoodS l) :
    Calls Tryd.prog 98 #[.slice a n cap] w fun e w' => e = .returned (.tuple #[.slice none 0 0, .bool false]) ∧ Below w.heap.size w w' := by
  have C1 := hide (goodSamples_any a l n cap w hn hs hn2 false (by simp [hno]))
  clear hn hs hno
  go_enter Tryd.func98, Tryd.ntmps98
  go_wp2_with fail
  refine C1.out.mono ?_
  rintro e w1 ⟨rfl, hb1⟩
  go_wp2
  go_ret2
  exact ⟨rfl, hb1⟩

theorem cell_two_new (w : World) (p q : Value) (t : TypeId) : ∀ j u, [p, q][j]? = some u → (w.alloc (.cells #[p, q] t)).cell? ((⟨w.heap.size, 0, none⟩ : Addr).add j) = some u := by
  intro j u h
  rw [addr_add]
  match j, h with
  | 0, h => simp at h; subst h; simp
  | 1, h => simp at h; subst h; simp
  | j + 2, h => simp at h
set_option maxRecDepth 100000 in
set_option maxHeartbeats 4000000 in
theorem chunkNumbers_yes (a : Option Addr) (l : List (Int × Int)) (n cap : Nat) (w : World) (hn : l.length = n) (hs : Sl2 w a l) (hg : GoodS l) :
    Calls Tryd.prog 98 #[.slice a n cap] w fun e w' => ∃ v, e = .returned (.tuple #[v, .bool true]) ∧ w'.ownsRow w.heap.size 3 1 v (1 + 2 * n) ((nums l).map (Value.int .i64)) ∧ Below w.heap.size w w' := by
  have hn2 : n ≤ 40 := by have := hg.1; omega
  have C1 := hide (goodSamples_any a l n cap w hn hs (by omega) true (by simp [hg]))
  have D1 := hide (fun a cap w hs => deltasOf_any a (ats l) n cap w (by rw [ats_len, hn]) hs (by omega))
  have D2 := hide (fun a cap w hs => deltasOf_any a (dl 0 (ats l)) n cap w (by rw [dl_len, ats_len, hn]) hs (by omega))
  have D3 := hide (fun a cap w hs => deltasOf_any a (vals l) n cap w (by rw [vals_len, hn]) hs (by omega))
  simp only [dRes_ats hg, dRes_steps hg, dRes_vals hg, RetL, Option.isSome_some, Option.getD_some, dl_len, ats_len, vals_len, hn] at D1 D2 D3
  obtain ⟨bs, hbs⟩ : ∃ bs, bs = dl 0 (dl 0 (ats l)) := ⟨_, rfl⟩
  obtain ⟨cs, hcs⟩ : ∃ cs, cs = dl 0 (vals l) := ⟨_, rfl⟩
  have hbl : bs.length = n := by rw [hbs, dl_len, dl_len, ats_len, hn]
  have hcl : cs.length = n := by rw [hcs, dl_len, vals_len, hn]
  have hnum : nums l = (n : Int) :: inter bs cs := by rw [hbs, hcs, ← hn]; rfl
  rw [← hbs] at D2
  rw [← hcs] at D3
  obtain ⟨i0, hi, hz0, hz1, hz2⟩ := info_parts info_int
  have HS := hide hs
  have HN := hide hn
  have HBL := hide hbl
  have HCL := hide hcl
  have HNUM := hide hnum
  clear hs hn hg hbs hcs hbl hcl hnum
  go_enter Tryd.func98, Tryd.ntmps98
  go_wp2_with fail
  refine C1.out.mono ?_
  rintro e w1 ⟨rfl, hb1⟩
  have B1 := hide hb1
  clear hb1
  go_wp2
  go_loopw [4, 5, 21] (fun ot ov i wr => ∃ k : Nat, k ≤ n ∧ i = .int .i64 k ∧ Two w.heap.size wr ot ov k ((ats l).take k) ((vals l).take k) ∧ Below w.heap.size w wr) (fun _ _ i _ => n - (intOf i).toNat)
  case atStart => exact ⟨0, Nat.zero_le _, rfl, two_nil _ _, B1.out⟩
  case round =>
    obtain ⟨k, hk, rfl, htwo, hbel⟩ := hrel
    obtain ⟨oa, ocap, qa, qcap, rfl, rfl, _, _⟩ := htwo.form
    by_cases hlt : k < n
    · obtain ⟨b, off, rfl, hc0, hd0⟩ := HS.out k (by rw [HN.out]; exact hlt)
      have hc : wr.cell? ⟨b, off + k * 2, none⟩ = some (.int .i64 (l.getD k (0, 0)).1) := by
        rw [hbel.cell (p := ⟨b, off + k * 2, none⟩) (blk_lt hc0)]; exact hc0
      have hd : wr.cell? ⟨b, off + k * 2 + 1, none⟩ = some (.int .i64 (l.getD k (0, 0)).2) := by
        rw [hbel.cell (p := ⟨b, off + k * 2 + 1, none⟩) (blk_lt hd0)]; exact hd0
      have hltI : (k : Int) < (n : Int) := by omega
      have ht1 := ltake_snoc (ats l) k (by rw [ats_len, HN.out]; exact hlt)
      have ht2 := ltake_snoc (vals l) k (by rw [vals_len, HN.out]; exact hlt)
      rw [ats_get] at ht1
      rw [vals_get] at ht2
      obtain ⟨x, hx⟩ : ∃ x, x = (l.getD k (0, 0)).1 := ⟨_, rfl⟩
      obtain ⟨y, hy⟩ : ∃ y, y = (l.getD k (0, 0)).2 := ⟨_, rfl⟩
      rw [← hx] at hc ht1
      rw [← hy] at hd ht2
      obtain ⟨ts, hts⟩ : ∃ ts, ts = (ats l).take k := ⟨_, rfl⟩
      obtain ⟨vs, hvs⟩ : ∃ vs, vs = (vals l).take k := ⟨_, rfl⟩
      rw [← hts] at ht1 htwo
      rw [← hvs] at ht2 htwo
      have HT1 := hide ht1
      have HT2 := hide ht2
      have hbs := hbel.size
      have HTW := hide htwo
      clear hc0 hd0 hx hy ht1 ht2 htwo hts hvs
      go_wp2_with (first
        | (at_builtin; refine wpList_append_own_at _ rfl _ _ 32 rfl w.heap.size 3 i0 (.int .i64 0) 1 8 Tryd.underlying32 hi hz0 hz1 hz2 rfl (by decide) _ _ _ rfl ((HTW.out.1.alloc _).alloc _) ⟨wr.heap.size + 1, 0, none⟩ 1 1 [.int .i64 x] rfl rfl (fun j u h => by have := cell_one_new (wr.alloc (.cells #[.int .i64 x, .int .i64 y] 50)) (.int .i64 x) 3 j u h; rw [World.size_alloc] at this; exact this) (by intro u hu; simp at hu; subst hu; rfl) (by unfold maxLen; omega) (by omega) (by simp; omega) ?_)
        | go_in)
      intro v3 w3 hown3 hgrow3 _ hblk3
      have F3 := two_first HTW.out hgrow3 hown3 (by simpa using hblk3) (y := .int .i64 y)
      obtain ⟨hy3, hb3, HF3⟩ := F3
      have hb3' := hbel.trans (hb3.mono (Nat.le_refl _))
      have hs3 := hb3'.size
      clear hown3 hgrow3 hblk3 hb3
      obtain ⟨g3, c3, rfl⟩ := ownsRow_succ' HF3.out.1
      go_wp2_with (first
        | (at_builtin; refine wpList_append_own_at _ rfl _ _ 32 rfl w.heap.size 3 i0 (.int .i64 0) 1 8 Tryd.underlying32 hi hz0 hz1 hz2 rfl (by decide) _ _ _ rfl (HF3.out.2.1.alloc _) ⟨w3.heap.size, 0, none⟩ 1 1 [.int .i64 y] rfl rfl (cell_one_new _ _ _) (by intro u hu; simp at hu; subst hu; rfl) (by unfold maxLen; omega) (by omega) (by simp; omega) ?_)
        | go_in)
      intro v4 w4 hown4 hgrow4 _ hblk4
      have F4 := hide (two_second HF3.out hgrow4 hown4 (by simpa using hblk4))
      have hb4 := hb3'.trans (below_app hs3 hgrow4 (fun g hg => (HF3.out.2.1.lt g hg).1))
      clear hown4 hgrow4 hblk4
      go_wp2
      go_roundw
      case rel => exact ⟨k + 1, by omega, by go_num, by rw [HT1.out, HT2.out]; simpa using F4.out, hb4⟩
      case measure => simp [intOf]; omega
    · obtain rfl : n = k := by omega
      have e1 : (ats l).take n = ats l := List.take_of_length_le (by rw [ats_len, HN.out]; omega)
      have e2 : (vals l).take n = vals l := List.take_of_length_le (by rw [vals_len, HN.out]; omega)
      rw [e1, e2] at htwo
      have hltI : ¬ (n : Int) < (n : Int) := by omega
      have HTW := hide htwo
      clear e1 e2 htwo
      obtain ⟨ta, tc, va, vc, e1, e2, hst, hsv⟩ := HTW.out.form
      cases e1
      cases e2
      have HT := hide hst
      have HV := hide hsv
      clear hst hsv
      go_wp2_with fail
      refine (D1.out _ _ _ HT.out).mono ?_
      rintro e w2 ⟨v1, rfl, ho2, hb2⟩
      obtain ⟨s1, k1, rfl, sl1, _⟩ := own_form ho2
      have V2 := hide (HV.out.below hb2)
      have T2 := hide sl1
      have B2 := hide (hbel.trans (hb2.mono hbel.size))
      clear ho2 sl1 hb2
      go_wp2_with fail
      refine (D2.out _ _ _ T2.out).mono ?_
      rintro e w3 ⟨v2, rfl, ho3, hb3⟩
      obtain ⟨s2, k2, rfl, sl2, _⟩ := own_form ho3
      have V3 := hide (V2.out.below hb3)
      have T3 := hide sl2
      have B3 := hide (B2.out.trans (hb3.mono B2.out.size))
      clear ho3 sl2 hb3
      go_wp2_with fail
      refine (D3.out _ _ _ V3.out).mono ?_
      rintro e W2 ⟨v3, rfl, ho4, hb4⟩
      obtain ⟨s3, k3, rfl, sl3, _⟩ := own_form ho4
      have T4 := hide (T3.out.below hb4)
      have V4 := hide sl3
      have B4 := hide (B3.out.trans (hb4.mono B3.out.size))
      clear ho4 sl3 hb4 T3 V3 B3 B2 V2 T2 D1 D2 D3 C1 HTW hbel hltI B1
      go_wp2
      go_loopw [14, 56] (fun o i wr => ∃ k : Nat, k ≤ n ∧ i = .int .i64 k ∧ wr.ownsRow W2.heap.size 3 1 o (1 + 2 * k) (((n : Int) :: inter (bs.take k) (cs.take k)).map (Value.int .i64)) ∧ Below W2.heap.size W2 wr) (fun _ i _ => n - (intOf i).toNat)
      case atStart => exact ⟨0, Nat.zero_le _, rfl, by simpa [inter] using one_row W2 n, (Below.refl _ _).alloc (Nat.le_refl _) _⟩
      case round =>
        obtain ⟨k, hk, rfl, hown, hbel2⟩ := hrel
        obtain ⟨oa, ocap, rfl, _, _⟩ := own_form hown
        by_cases hlt : k < n
        · obtain ⟨bb, bo, rfl, hcx0⟩ := T4.out k (by rw [HBL.out]; exact hlt)
          obtain ⟨cb, co, rfl, hcy0⟩ := V4.out k (by rw [HCL.out]; exact hlt)
          have hcx := (hbel2.cell (p := ⟨bb, bo + k, none⟩) (blk_lt hcx0)).trans hcx0
          have hcy := (hbel2.cell (p := ⟨cb, co + k, none⟩) (blk_lt hcy0)).trans hcy0
          have HBB := hide (blk_lt hcx0)
          have HCB := hide (blk_lt hcy0)
          have htk := nums_take HBL.out HCL.out hlt (n : Int)
          obtain ⟨x, hx⟩ : ∃ x, x = bs.getD k 0 := ⟨_, rfl⟩
          obtain ⟨y, hy⟩ : ∃ y, y = cs.getD k 0 := ⟨_, rfl⟩
          rw [← hx] at hcx htk
          rw [← hy] at hcy htk
          obtain ⟨ns, hns⟩ : ∃ ns, ns = (n : Int) :: inter (bs.take k) (cs.take k) := ⟨_, rfl⟩
          rw [← hns] at htk hown
          have HTK := hide htk
          have HROW := hide hown
          have hltI : (k : Int) < (n : Int) := by omega
          have hk0 : (0 : Int) ≤ (k : Int) := by omega
          have hsz2 := hbel2.size
          clear hcx0 hcy0 hx hy htk hns hown
          go_wp2
          refine wp_region_held_drew (S := (fun wx => wx.cell? ⟨bb, bo + k, none⟩ = some (.int .i64 x) ∧ wx.cell? ⟨cb, co + k, none⟩ = some (.int .i64 y) ∧ Below W2.heap.size W2 wx)) (by kernel_rfl) ⟨hcx, hcy, hbel2.drew⟩ (fun hHeld => ?_)
          refine wpAnyH_take (i := 0) (v := ?v1) rfl (by kernel_rfl) (by kernel_rfl) (by kernel_rfl) (fun _ _ _ h => h) (Or.inl ⟨by rfl, ?y1⟩) (by assumption) ?r1
          case y1 => (intro w hSw; (try dsimp only at hSw); go_simp; try (with_reducible rfl))
          simp only [List.getElem_toArray, List.getElem_cons_zero, Act.put, List.setIfInBounds_toArray, List.set_cons_zero, List.set_cons_succ]
          refine wpAnyH_take (i := 1) (v := ?v2) rfl (by kernel_rfl) (by kernel_rfl) (by kernel_rfl) (fun _ _ _ h => h) (Or.inl ⟨by rfl, ?y2⟩) (by assumption) ?r2
          case y2 => (intro w hSw; (try dsimp only at hSw); go_simp; try (with_reducible rfl))
          simp only [List.getElem_toArray, List.getElem_cons_succ, List.getElem_cons_zero, Act.put, List.setIfInBounds_toArray, List.set_cons_zero, List.set_cons_succ]
          refine wpAnyH_take (i := 2) (v := ?v3) rfl (by kernel_rfl) (by kernel_rfl) (by kernel_rfl) (fun _ _ _ h => h) (Or.inl ⟨by rfl, ?y3⟩) (by assumption) ?r3
          case y3 => (intro w hSw; (try dsimp only at hSw); go_simp; try (with_reducible rfl))
          simp only [List.getElem_toArray, List.getElem_cons_succ, List.getElem_cons_zero, Act.put, List.setIfInBounds_toArray, List.set_cons_zero, List.set_cons_succ]
          refine wpAnyH_take (i := 3) (v := ?v4) rfl (by kernel_rfl) (by kernel_rfl) (by kernel_rfl) (fun _ _ _ h => h) (Or.inl ⟨by rfl, ?y4⟩) (by assumption) ?r4
          case y4 => (intro w hSw; (try dsimp only at hSw); go_simp; try (with_reducible rfl))
          simp only [List.getElem_toArray, List.getElem_cons_succ, List.getElem_cons_zero, Act.put, List.setIfInBounds_toArray, List.set_cons_zero, List.set_cons_succ]
          refine wpAnyH_take (i := 4) (v := ?v5) rfl (by kernel_rfl) (by kernel_rfl) (by kernel_rfl) (fun _ _ _ h => h) (Or.inl ⟨by rfl, ?y5⟩) (by assumption) ?r5
          case y5 => (intro w hSw; (try dsimp only at hSw); go_simp; try (with_reducible rfl))
          simp only [List.getElem_toArray, List.getElem_cons_succ, List.getElem_cons_zero, Act.put, List.setIfInBounds_toArray, List.set_cons_zero, List.set_cons_succ]
          refine wpAnyH_take (i := 5) (v := ?v6) rfl (by kernel_rfl) (by kernel_rfl) (by kernel_rfl) (fun _ _ _ h => h) (Or.inl ⟨by rfl, ?y6⟩) (by assumption) ?r6
          case y6 => (intro w hSw; (try dsimp only at hSw); go_simp; try (with_reducible rfl))
          simp only [List.getElem_toArray, List.getElem_cons_succ, List.getElem_cons_zero, Act.put, List.setIfInBounds_toArray, List.set_cons_zero, List.set_cons_succ]
          refine wpAnyH_take (i := 6) (v := ?v7) rfl (by kernel_rfl) (by kernel_rfl) (by kernel_rfl) (fun _ _ _ h => h) (Or.inl ⟨by rfl, ?y7⟩) (by assumption) ?r7
          case y7 => (intro w hSw; (try dsimp only at hSw); go_simp; try (with_reducible rfl))
          simp only [List.getElem_toArray, List.getElem_cons_succ, List.getElem_cons_zero, Act.put, List.setIfInBounds_toArray, List.set_cons_zero, List.set_cons_succ]
          refine wpAnyH_take (i := 7) (v := ?v8) rfl (by kernel_rfl) (by kernel_rfl) (by kernel_rfl) (fun _ _ _ h => h) (Or.inl ⟨by rfl, ?y8⟩) (by assumption) ?r8
          case y8 => (intro w hSw; (try dsimp only at hSw); go_simp; try (with_reducible rfl))
          simp only [List.getElem_toArray, List.getElem_cons_succ, List.getElem_cons_zero, Act.put, List.setIfInBounds_toArray, List.set_cons_zero, List.set_cons_succ]
          refine wpAnyH_take (i := 8) (v := ?v9) rfl (by kernel_rfl) (by kernel_rfl) (by kernel_rfl) (fun _ _ _ h => h) (Or.inl ⟨by rfl, ?y9⟩) (by assumption) ?r9
          case y9 => (intro w hSw; (try dsimp only at hSw); go_simp; try (with_reducible rfl))
          simp only [List.getElem_toArray, List.getElem_cons_succ, List.getElem_cons_zero, Act.put, List.setIfInBounds_toArray, List.set_cons_zero, List.set_cons_succ]
          refine wpAnyH_ready (rs := [9]) (by kernel_rfl) (by simp) ?_
          refine AllReadyH.cons rfl (fun K hK => ?_) AllReadyH.nil
          simp only [List.getElem_toArray, List.getElem_cons_succ, List.getElem_cons_zero]
          go_simp
          refine hK.out _ _ ?_ (fun hHeld => ?_)
          · exact keepA hHeld (show Below W2.heap.size wr.drew _ from (Below.refl _ wr.drew).alloc hbel2.size (.cells #[.int .i64 x, .int .i64 y] 3)) HBB.out HCB.out
          clear hK K
          try simp only [Act.put, List.setIfInBounds_toArray, List.set_cons_zero, List.set_cons_succ]
          refine wpAnyH_ready (rs := [10]) (by kernel_rfl) (by simp) ?_
          refine AllReadyH.cons rfl (fun K hK => ?_) AllReadyH.nil
          simp only [List.getElem_toArray, List.getElem_cons_succ, List.getElem_cons_zero]
          rw [if_pos (by rfl)]
          refine wp_append_lies _ (.tmp 59) (.tmp 68) 32 rfl W2.heap.size 3 i0 (.int .i64 0) 1 8 Tryd.underlying32 hi hz0 hz1 hz2 rfl (by decide) (.slice oa (1 + 2 * k) ocap) (1 + 2 * k) (ns.map (Value.int .i64)) rfl (HROW.out.alloc (.cells #[.int .i64 x, .int .i64 y] 3)) ⟨wr.heap.size, 0, none⟩ 2 2 [.int .i64 x, .int .i64 y] rfl rfl ?_ ?_ (by decide) (by unfold maxLen; omega) (by omega) (Nat.le_trans hsz2 (by show wr.heap.size ≤ (wr.alloc _).heap.size; simp)) _ rfl ?_
          · exact fun j u h => cell_two_new wr (.int .i64 x) (.int .i64 y) 3 j u h
          · intro u hu
            simp at hu
            rcases hu with rfl | rfl <;> rfl
          intro g4 c4 w4 hown4 hgrow4 _ _
          have hb4 : Below W2.heap.size (wr.alloc (.cells #[.int .i64 x, .int .i64 y] 3)).drew w4 := (Below.refl _ _).grown hgrow4 (Nat.le_trans hsz2 (by show wr.heap.size ≤ (wr.alloc _).heap.size; simp)) (fun g hg => (HROW.out.lt g hg).1)
          refine hK.out _ _ ?_ (fun hHeld => ?_)
          · exact keepA hHeld hb4 HBB.out HCB.out
          clear hK K hgrow4 hb4
          try simp only [Act.put, List.setIfInBounds_toArray, List.set_cons_zero, List.set_cons_succ]
          refine wpAnyH_take (i := 11) (v := ?v10) rfl (by kernel_rfl) (by kernel_rfl) (by kernel_rfl) (fun _ _ _ h => h) (Or.inl ⟨by rfl, ?y10⟩) (by assumption) ?r10
          case y10 => (intro w hSw; (try dsimp only at hSw); go_simp; try (with_reducible rfl))
          simp only [List.getElem_toArray, List.getElem_cons_succ, List.getElem_cons_zero, Act.put, List.setIfInBounds_toArray, List.set_cons_zero, List.set_cons_succ]
          refine wpAnyH_done (by kernel_rfl) ?_ _
          have HO4 := hide hown4
          have HB4 := hide hHeld.2.2
          clear hown4 hHeld
          go_wp2
          go_roundw
          case rel => exact ⟨k + 1, by omega, by go_num, by rw [show 1 + 2 * (k + 1) = 1 + 2 * k + 2 by omega, HTK.out]; simpa using HO4.out, HB4.out⟩
          case measure => simp [intOf]; omega
        · obtain rfl : n = k := by omega
          have e1 : bs.take n = bs := List.take_of_length_le (by rw [HBL.out]; omega)
          have e2 : cs.take n = cs := List.take_of_length_le (by rw [HCL.out]; omega)
          rw [e1, e2, ← HNUM.out] at hown
          have HO := hide (own_base hown B4.out.size)
          have hltI : ¬ (n : Int) < (n : Int) := by omega
          clear e1 e2 hown
          go_wp2
          go_ret2
          exact ⟨_, rfl, HO.out, B4.out.trans (hbel2.mono B4.out.size)⟩
end Go.Proofs.YtapffbbmofhpoaaDoor.L1
