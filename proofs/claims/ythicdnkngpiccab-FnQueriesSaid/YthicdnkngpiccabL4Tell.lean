/-
  Contracts: impl.allSeries, impl.tellPart: what a part of a query tells, in new memory.
-/
import Derived.Test.YthicdnkngpiccabL4EvalMath
import Derived.Test.YthicdnkngpiccabL4Posts2
import Derived.Test.YthicdnkngpiccabL4Sets
namespace Go.Proofs.Ythicdnkngpiccab.L4
open Go.RowKit L1 L3
set_option linter.unusedVariables false

/-- Lists of ints lie in memory from an address on. -/
def Tl (w : World) (a : Option Addr) (ts : List (List Int)) : Prop := ∀ i, i < ts.length → ∃ b off, a = some ⟨b, off, none⟩ ∧ ∃ ai ci, w.cell? ⟨b, off + i, none⟩ = some (.slice ai (ts.getD i []).length ci) ∧ SlC w ai (ts.getD i []).length ci (ts.getD i [])
theorem Tl.below {w w' : World} {a : Option Addr} {xs : List (List Int)} (h : Tl w a xs) (hb : Below w.heap.size w w') : Tl w' a xs := fun i hi => by
  obtain ⟨b, off, ha, ai, ci, hc, hs⟩ := h i hi
  exact ⟨b, off, ha, ai, ci, (hb.cell (p := ⟨b, off + i, none⟩) (blk_lt hc)).trans hc, hs.below hb⟩

set_option maxRecDepth 100000 in
set_option maxHeartbeats 2000000 in
theorem allSeries_any (a : Option Addr) (n cap : Nat) (w : World) (hn2 : n ≤ 1048576) :
    Calls Try.prog 65 #[.slice a n cap] w fun e w' => RetI w (allN n) e w' := by
  obtain ⟨i1, hi1, hy0, hy1, hy2⟩ := info_parts info_int
  go_enter Try.func65, Try.ntmps65
  go_wp2
  go_loopw [3, 7] (fun ot i wr => ∃ k : Nat, k ≤ n ∧ i = .int .i64 k ∧ wr.ownsRow w.heap.size 3 1 ot k ((allN k).map (Value.int .i64)) ∧ Below w.heap.size w wr) (fun _ i _ => n - (intOf i).toNat)
  case atStart => exact ⟨0, Nat.zero_le _, rfl, World.ownsRow_nil _ _ _ _, Below.refl _ _⟩
  case round =>
    obtain ⟨k, hk, rfl, hown, hbel⟩ := hrel
    obtain ⟨oa, ocap, rfl⟩ := own_shapeT hown
    have hsz := hbel.size
    have HROW := hide hown
    have B0 := hide hbel
    clear hown hbel
    by_cases hlt : k < n
    · have hltI : (k : Int) < (n : Int) := by omega
      go_wp2_with (first
        | (at_builtin; refine wpList_append_own _ rfl _ _ 57 rfl w.heap.size 3 i1 (.int .i64 0) 1 8 Try.underlying57 hi1 hy0 hy1 hy2 rfl (by decide) _ _ _ rfl (HROW.out.alloc _) ⟨wr.heap.size, 0, none⟩ 1 1 [.int .i64 (k : Int)] rfl rfl (cell_one_new _ _ _) (by intro u hu; simp at hu; subst hu; rfl) (by unfold maxLen; omega) (by omega) (by simp; omega) ?_)
        | go_in)
      intro v6 w6 hown6 hgrow6 _
      have hb6 := B0.out.trans (((Below.refl _ _).alloc hsz _).grown hgrow6 (by simp; omega) (fun g hg => (HROW.out.lt g hg).1))
      have hown7 : Hid (w6.ownsRow w.heap.size 3 1 v6 (k + 1) ((allN (k + 1)).map (Value.int .i64))) := by
        refine hide ?_
        rw [allN, List.map_append]
        simpa using hown6
      clear hown6 hgrow6
      go_wp2
      go_roundw
      case rel => exact ⟨k + 1, by omega, by go_num, hown7.out, hb6⟩
      case measure => simp [intOf]; omega
    · obtain rfl : k = n := by omega
      have hltI : ¬ (k : Int) < (k : Int) := by omega
      go_wp2
      go_ret
      exact ⟨_, rfl, by rw [allN_len]; exact HROW.out, B0.out⟩

set_option maxRecDepth 100000 in
set_option maxHeartbeats 4000000 in
theorem tell2 (a : Option Addr) (ls : List (List Lb)) (n cap : Nat) (pn pv : ByteArray)  (ta : Option Addr) (tn tcap : Nat) (ts : List (List Int)) (w : World) (hn : ls.length = n) (hs : SlS w a ls) (hn2 : n ≤ 60) (hls : ∀ i, i < ls.length → (ls.getD i []).length ≤ 1048576) (htn : ts.length = tn) (ht : Tl w ta ts) (hok : ∀ t ∈ ts, OkT n t) :
    Calls Try.prog 43 #[.slice a n cap, .agg #[.int .i64 2, .string pn, .string pv, .int .i64 0, .int .i64 0], .slice ta tn tcap] w fun e w' => RetI w (hav ls (pn, pv) n) e w' := by
  have hb0 : Below w.heap.size w (w.alloc (.cells #[.int .i64 2, .string pn, .string pv, .int .i64 0, .int .i64 0] 51)) := (Below.refl _ _).alloc (Nat.le_refl _) _
  have HB0 := hide hb0
  have C := hide (fun w (hs : SlS w a ls) => seriesWith_any a ls n cap pn pv w hn hs (by omega) hls)
  have HS := hide hs
  clear hn hs hls htn ht hok hb0
  go_enter Try.func43, Try.ntmps43
  go_wp2_with fail
  refine (C.out _ (HS.out.below HB0.out)).mono ?_
  rintro e w3 ⟨v, rfl, ho, hb⟩
  have HO := hide (own_baseT ho HB0.out.size)
  have HB := hide (HB0.out.trans (hb.mono HB0.out.size))
  obtain ⟨a5, c5, rfl⟩ := own_shapeT ho
  clear ho hb
  go_wp2
  go_ret
  exact ⟨_, rfl, HO.out, HB.out⟩

set_option maxRecDepth 100000 in
set_option maxHeartbeats 4000000 in
theorem tell1 (a : Option Addr) (ls : List (List Lb)) (n cap : Nat) (pn pv : ByteArray)  (ta : Option Addr) (tn tcap : Nat) (ts : List (List Int)) (w : World) (hn : ls.length = n) (hs : SlS w a ls) (hn2 : n ≤ 60) (hls : ∀ i, i < ls.length → (ls.getD i []).length ≤ 1048576) (htn : ts.length = tn) (ht : Tl w ta ts) (hok : ∀ t ∈ ts, OkT n t) :
    Calls Try.prog 43 #[.slice a n cap, .agg #[.int .i64 1, .string pn, .string pv, .int .i64 0, .int .i64 0], .slice ta tn tcap] w fun e w' => RetI w (allN n) e w' := by
  have hb0 : Below w.heap.size w (w.alloc (.cells #[.int .i64 1, .string pn, .string pv, .int .i64 0, .int .i64 0] 51)) := (Below.refl _ _).alloc (Nat.le_refl _) _
  have HB0 := hide hb0
  have C := hide (fun w => allSeries_any a n cap w (by omega))
  clear hn hs hls htn ht hok hb0
  go_enter Try.func43, Try.ntmps43
  go_wp2_with fail
  refine (C.out _).mono ?_
  rintro e w3 ⟨v, rfl, ho, hb⟩
  have HO := hide (own_baseT ho HB0.out.size)
  have HB := hide (HB0.out.trans (hb.mono HB0.out.size))
  obtain ⟨a5, c5, rfl⟩ := own_shapeT ho
  clear ho hb
  go_wp2
  go_ret
  exact ⟨_, rfl, HO.out, HB.out⟩

set_option maxRecDepth 100000 in
set_option maxHeartbeats 4000000 in
theorem tell3 (a : Option Addr) (ls : List (List Lb)) (n cap : Nat) (pn pv : ByteArray) (i j : Nat) (ta : Option Addr) (tn tcap : Nat) (ts : List (List Int)) (w : World) (hn : ls.length = n) (hs : SlS w a ls) (hn2 : n ≤ 60) (hls : ∀ i, i < ls.length → (ls.getD i []).length ≤ 1048576) (htn : ts.length = tn) (ht : Tl w ta ts) (hok : ∀ t ∈ ts, OkT n t) (hi : i < tn) (hj : j < tn) :
    Calls Try.prog 43 #[.slice a n cap, .agg #[.int .i64 3, .string pn, .string pv, .int .i64 (i : Int), .int .i64 (j : Int)], .slice ta tn tcap] w fun e w' => RetI w (those (ts.getD j []) true (ts.getD i [])) e w' := by
  have hb0 : Below w.heap.size w (w.alloc (.cells #[.int .i64 3, .string pn, .string pv, .int .i64 (i : Int), .int .i64 (j : Int)] 51)) := (Below.refl _ _).alloc (Nat.le_refl _) _
  have HB0 := hide hb0
  have ha := ht i (by rw [htn]; exact hi)
  have hb := ht j (by rw [htn]; exact hj)
  obtain ⟨tb, toff, rfl, xa, xc, hca, hsa⟩ := ha
  obtain ⟨tb', toff', e', ya, yc, hcb, hsb⟩ := hb
  cases e'
  have oka := getD_ok hok i
  have okb := getD_ok hok j
  obtain ⟨ta1, hta⟩ : ∃ t, t = ts.getD i [] := ⟨_, rfl⟩
  obtain ⟨tb1, htb⟩ : ∃ t, t = ts.getD j [] := ⟨_, rfl⟩
  rw [← hta] at hca hsa oka ⊢
  rw [← htb] at hcb hsb okb ⊢
  have la := okT_len oka
  have lb := okT_len okb
  obtain ⟨na, hna⟩ : ∃ t, t = ta1.length := ⟨_, rfl⟩
  obtain ⟨nb, hnb⟩ : ∃ t, t = tb1.length := ⟨_, rfl⟩
  rw [← hna] at hca hsa la
  rw [← hnb] at hcb hsb lb
  have C := hide (fun w (h1 : SlC w xa na xc ta1) (h2 : SlC w ya nb yc tb1) => meet_any xa ta1 na xc ya tb1 nb yc w hna.symm h1 (by omega) hnb.symm h2 (by omega) oka.1 okb.1)
  have hca0 := (hb0.cell (p := ⟨tb, toff + i, none⟩) (blk_lt hca)).trans hca
  have hcb0 := (hb0.cell (p := ⟨tb, toff + j, none⟩) (blk_lt hcb)).trans hcb
  have HSA := hide hsa
  have HSB := hide hsb
  have hiI : (i : Int) < (tn : Int) := by omega
  have hjI : (j : Int) < (tn : Int) := by omega
  obtain ⟨W0, hW0⟩ : ∃ W0, w.alloc (.cells #[.int .i64 3, .string pn, .string pv, .int .i64 (i : Int), .int .i64 (j : Int)] 51) = W0 := ⟨_, rfl⟩
  have c0 : W0.cell? ⟨w.heap.size, 3, none⟩ = some (.int .i64 (i : Int)) := by rw [← hW0]; simp
  have c1 : W0.cell? ⟨w.heap.size, 4, none⟩ = some (.int .i64 (j : Int)) := by rw [← hW0]; simp
  have ck : W0.cell? ⟨w.heap.size, 0, none⟩ = some (.int .i64 3) := by rw [← hW0]; simp
  have hsz0 : w.heap.size ≤ W0.heap.size := by rw [← hW0]; simp
  rw [hW0] at hca0 hcb0 HB0
  have HW := hide hW0
  clear hn hs hls htn ht hok hb0 hta htb hna hnb oka okb hca hcb hsa hsb hW0
  go_enter Try.func43, Try.ntmps43
  go_wp2
  rw [HW.out]
  refine wp_region_held_drew (S := (fun wx => wx.cell? ⟨w.heap.size, 3, none⟩ = some (.int .i64 (i : Int)) ∧ wx.cell? ⟨w.heap.size, 4, none⟩ = some (.int .i64 (j : Int)) ∧ wx.cell? ⟨tb, toff + i, none⟩ = some (.slice xa na xc) ∧ wx.cell? ⟨tb, toff + j, none⟩ = some (.slice ya nb yc) ∧ Below w.heap.size w wx)) (by kernel_rfl) ⟨c0, c1, hca0, hcb0, HB0.out.drew⟩ (fun hHeld => ?_)
  refine wpAnyH_take (i := 0) (v := ?v1) rfl (by kernel_rfl) (by kernel_rfl) (by kernel_rfl) (fun _ _ _ h => h) (Or.inl ⟨by rfl, ?y1⟩) (by assumption) ?r1
  case y1 => (intro w hSw; (try dsimp only at hSw); go_simp; try (with_reducible rfl))
  simp only [List.getElem_toArray, List.getElem_cons_zero, Act.put, List.setIfInBounds_toArray, List.set_cons_zero, List.set_cons_succ]
  refine wpAnyH_take (i := 5) (v := ?v2) rfl (by kernel_rfl) (by kernel_rfl) (by kernel_rfl) (fun _ _ _ h => h) (Or.inl ⟨by rfl, ?y2⟩) (by assumption) ?r2
  case y2 => (intro w hSw; (try dsimp only at hSw); go_simp; try (with_reducible rfl))
  simp only [List.getElem_toArray, List.getElem_cons_succ, List.getElem_cons_zero, Act.put, List.setIfInBounds_toArray, List.set_cons_zero, List.set_cons_succ]
  refine wpAnyH_take (i := 1) (v := ?v3) rfl (by kernel_rfl) (by kernel_rfl) (by kernel_rfl) (fun _ _ _ h => h) (Or.inl ⟨by rfl, ?y3⟩) (by assumption) ?r3
  case y3 => (intro w hSw; (try dsimp only at hSw); go_simp; try (with_reducible rfl))
  simp only [List.getElem_toArray, List.getElem_cons_succ, List.getElem_cons_zero, Act.put, List.setIfInBounds_toArray, List.set_cons_zero, List.set_cons_succ]
  refine wpAnyH_take (i := 6) (v := ?v4) rfl (by kernel_rfl) (by kernel_rfl) (by kernel_rfl) (fun _ _ _ h => h) (Or.inl ⟨by rfl, ?y4⟩) (by assumption) ?r4
  case y4 => (intro w hSw; (try dsimp only at hSw); go_simp; try (with_reducible rfl))
  simp only [List.getElem_toArray, List.getElem_cons_succ, List.getElem_cons_zero, Act.put, List.setIfInBounds_toArray, List.set_cons_zero, List.set_cons_succ]
  refine wpAnyH_take (i := 2) (v := ?v5) rfl (by kernel_rfl) (by kernel_rfl) (by kernel_rfl) (fun _ _ _ h => h) (Or.inl ⟨by rfl, ?y5⟩) (by assumption) ?r5
  case y5 => (intro w hSw; (try dsimp only at hSw); go_simp; try (with_reducible rfl))
  simp only [List.getElem_toArray, List.getElem_cons_succ, List.getElem_cons_zero, Act.put, List.setIfInBounds_toArray, List.set_cons_zero, List.set_cons_succ]
  refine wpAnyH_take (i := 7) (v := ?v6) rfl (by kernel_rfl) (by kernel_rfl) (by kernel_rfl) (fun _ _ _ h => h) (Or.inl ⟨by rfl, ?y6⟩) (by assumption) ?r6
  case y6 => (intro w hSw; (try dsimp only at hSw); go_simp; try (with_reducible rfl))
  simp only [List.getElem_toArray, List.getElem_cons_succ, List.getElem_cons_zero, Act.put, List.setIfInBounds_toArray, List.set_cons_zero, List.set_cons_succ]
  refine wpAnyH_take (i := 3) (v := ?v7) rfl (by kernel_rfl) (by kernel_rfl) (by kernel_rfl) (fun _ _ _ h => h) (Or.inl ⟨by rfl, ?y7⟩) (by assumption) ?r7
  case y7 => (intro w hSw; (try dsimp only at hSw); go_simp; try (with_reducible rfl))
  simp only [List.getElem_toArray, List.getElem_cons_succ, List.getElem_cons_zero, Act.put, List.setIfInBounds_toArray, List.set_cons_zero, List.set_cons_succ]
  refine wpAnyH_take (i := 8) (v := ?v8) rfl (by kernel_rfl) (by kernel_rfl) (by kernel_rfl) (fun _ _ _ h => h) (Or.inl ⟨by rfl, ?y8⟩) (by assumption) ?r8
  case y8 => (intro w hSw; (try dsimp only at hSw); go_simp; try (with_reducible rfl))
  simp only [List.getElem_toArray, List.getElem_cons_succ, List.getElem_cons_zero, Act.put, List.setIfInBounds_toArray, List.set_cons_zero, List.set_cons_succ]
  refine wpAnyH_take (i := 4) (v := .slice xa na xc) rfl (by kernel_rfl) (by kernel_rfl) (by kernel_rfl) (fun _ _ _ h => h) (Or.inl ⟨by rfl, ?y9⟩) (by assumption) ?r9
  case y9 => (intro w hSw; obtain ⟨hq0, hq1, hq2, hq3, hq4⟩ := hSw; go_simp; try (with_reducible rfl))
  simp only [List.getElem_toArray, List.getElem_cons_succ, List.getElem_cons_zero, Act.put, List.setIfInBounds_toArray, List.set_cons_zero, List.set_cons_succ]
  refine wpAnyH_take (i := 9) (v := .slice ya nb yc) rfl (by kernel_rfl) (by kernel_rfl) (by kernel_rfl) (fun _ _ _ h => h) (Or.inl ⟨by rfl, ?y10⟩) (by assumption) ?r10
  case y10 => (intro w hSw; obtain ⟨hq0, hq1, hq2, hq3, hq4⟩ := hSw; go_simp; try (with_reducible rfl))
  simp only [List.getElem_toArray, List.getElem_cons_succ, List.getElem_cons_zero, Act.put, List.setIfInBounds_toArray, List.set_cons_zero, List.set_cons_succ]
  refine wpAnyH_ready (rs := [10]) (by kernel_rfl) (by simp) ?_
  refine AllReadyH.cons rfl (fun K hK => ?_) AllReadyH.nil
  simp only [List.getElem_toArray, List.getElem_cons_succ, List.getElem_cons_zero]
  go_simp
  go_at_call 31
  refine (C.out _ (HSA.out.below hHeld.2.2.2.2) (HSB.out.below hHeld.2.2.2.2)).mono ?_
  rintro e w3 ⟨v, rfl, ho, hb⟩
  have HO := hide (own_baseT ho hHeld.2.2.2.2.size)
  have HB := hide (hHeld.2.2.2.2.trans (hb.mono hHeld.2.2.2.2.size))
  have hS3 : (fun wx => wx.cell? ⟨w.heap.size, 3, none⟩ = some (.int .i64 (i : Int)) ∧ wx.cell? ⟨w.heap.size, 4, none⟩ = some (.int .i64 (j : Int)) ∧ wx.cell? ⟨tb, toff + i, none⟩ = some (.slice xa na xc) ∧ wx.cell? ⟨tb, toff + j, none⟩ = some (.slice ya nb yc) ∧ Below w.heap.size w wx) w3 := ⟨(hb.cell (p := ⟨w.heap.size, 3, none⟩) (blk_lt hHeld.1)).trans hHeld.1, (hb.cell (p := ⟨w.heap.size, 4, none⟩) (blk_lt hHeld.2.1)).trans hHeld.2.1, (hb.cell (p := ⟨tb, toff + i, none⟩) (blk_lt hHeld.2.2.1)).trans hHeld.2.2.1, (hb.cell (p := ⟨tb, toff + j, none⟩) (blk_lt hHeld.2.2.2.1)).trans hHeld.2.2.2.1, HB.out⟩
  obtain ⟨a5, c5, rfl⟩ := own_shapeT ho
  clear ho hb
  dsimp only
  refine hK.out _ _ hS3 (fun hHeld => ?_)
  clear hK K
  try simp only [Act.put, List.setIfInBounds_toArray, List.set_cons_zero, List.set_cons_succ]
  refine wpAnyH_take (i := 11) (v := ?v11) rfl (by kernel_rfl) (by kernel_rfl) (by kernel_rfl) (fun _ _ _ h => h) (Or.inl ⟨by rfl, ?y11⟩) (by assumption) ?r11
  case y11 => (intro w hSw; (try dsimp only at hSw); go_simp; try (with_reducible rfl))
  simp only [List.getElem_toArray, List.getElem_cons_succ, List.getElem_cons_zero, Act.put, List.setIfInBounds_toArray, List.set_cons_zero, List.set_cons_succ]
  refine wpAnyH_done (by kernel_rfl) ?_ _
  go_wp2
  go_ret
  exact ⟨_, rfl, HO.out, HB.out⟩

set_option maxRecDepth 100000 in
set_option maxHeartbeats 4000000 in
theorem tell4 (a : Option Addr) (ls : List (List Lb)) (n cap : Nat) (pn pv : ByteArray) (i j : Nat) (ta : Option Addr) (tn tcap : Nat) (ts : List (List Int)) (w : World) (hn : ls.length = n) (hs : SlS w a ls) (hn2 : n ≤ 60) (hls : ∀ i, i < ls.length → (ls.getD i []).length ≤ 1048576) (htn : ts.length = tn) (ht : Tl w ta ts) (hok : ∀ t ∈ ts, OkT n t) (hi : i < tn) (hj : j < tn) :
    Calls Try.prog 43 #[.slice a n cap, .agg #[.int .i64 4, .string pn, .string pv, .int .i64 (i : Int), .int .i64 (j : Int)], .slice ta tn tcap] w fun e w' => RetI w (joinL (ts.getD i []) (ts.getD j [])) e w' := by
  have hb0 : Below w.heap.size w (w.alloc (.cells #[.int .i64 4, .string pn, .string pv, .int .i64 (i : Int), .int .i64 (j : Int)] 51)) := (Below.refl _ _).alloc (Nat.le_refl _) _
  have HB0 := hide hb0
  have ha := ht i (by rw [htn]; exact hi)
  have hb := ht j (by rw [htn]; exact hj)
  obtain ⟨tb, toff, rfl, xa, xc, hca, hsa⟩ := ha
  obtain ⟨tb', toff', e', ya, yc, hcb, hsb⟩ := hb
  cases e'
  have oka := getD_ok hok i
  have okb := getD_ok hok j
  obtain ⟨ta1, hta⟩ : ∃ t, t = ts.getD i [] := ⟨_, rfl⟩
  obtain ⟨tb1, htb⟩ : ∃ t, t = ts.getD j [] := ⟨_, rfl⟩
  rw [← hta] at hca hsa oka ⊢
  rw [← htb] at hcb hsb okb ⊢
  have la := okT_len oka
  have lb := okT_len okb
  obtain ⟨na, hna⟩ : ∃ t, t = ta1.length := ⟨_, rfl⟩
  obtain ⟨nb, hnb⟩ : ∃ t, t = tb1.length := ⟨_, rfl⟩
  rw [← hna] at hca hsa la
  rw [← hnb] at hcb hsb lb
  have C := hide (fun w (h1 : SlC w xa na xc ta1) (h2 : SlC w ya nb yc tb1) => join_any xa ta1 na xc ya tb1 nb yc w hna.symm h1.sl (by omega) hnb.symm h2 (by omega) oka.1 okb.1)
  have hca0 := (hb0.cell (p := ⟨tb, toff + i, none⟩) (blk_lt hca)).trans hca
  have hcb0 := (hb0.cell (p := ⟨tb, toff + j, none⟩) (blk_lt hcb)).trans hcb
  have HSA := hide hsa
  have HSB := hide hsb
  have hiI : (i : Int) < (tn : Int) := by omega
  have hjI : (j : Int) < (tn : Int) := by omega
  obtain ⟨W0, hW0⟩ : ∃ W0, w.alloc (.cells #[.int .i64 4, .string pn, .string pv, .int .i64 (i : Int), .int .i64 (j : Int)] 51) = W0 := ⟨_, rfl⟩
  have c0 : W0.cell? ⟨w.heap.size, 3, none⟩ = some (.int .i64 (i : Int)) := by rw [← hW0]; simp
  have c1 : W0.cell? ⟨w.heap.size, 4, none⟩ = some (.int .i64 (j : Int)) := by rw [← hW0]; simp
  have ck : W0.cell? ⟨w.heap.size, 0, none⟩ = some (.int .i64 4) := by rw [← hW0]; simp
  have hsz0 : w.heap.size ≤ W0.heap.size := by rw [← hW0]; simp
  rw [hW0] at hca0 hcb0 HB0
  have HW := hide hW0
  clear hn hs hls htn ht hok hb0 hta htb hna hnb oka okb hca hcb hsa hsb hW0
  go_enter Try.func43, Try.ntmps43
  go_wp2
  rw [HW.out]
  refine wp_region_held_drew (S := (fun wx => wx.cell? ⟨w.heap.size, 3, none⟩ = some (.int .i64 (i : Int)) ∧ wx.cell? ⟨w.heap.size, 4, none⟩ = some (.int .i64 (j : Int)) ∧ wx.cell? ⟨tb, toff + i, none⟩ = some (.slice xa na xc) ∧ wx.cell? ⟨tb, toff + j, none⟩ = some (.slice ya nb yc) ∧ Below w.heap.size w wx)) (by kernel_rfl) ⟨c0, c1, hca0, hcb0, HB0.out.drew⟩ (fun hHeld => ?_)
  refine wpAnyH_take (i := 0) (v := ?v12) rfl (by kernel_rfl) (by kernel_rfl) (by kernel_rfl) (fun _ _ _ h => h) (Or.inl ⟨by rfl, ?y12⟩) (by assumption) ?r12
  case y12 => (intro w hSw; (try dsimp only at hSw); go_simp; try (with_reducible rfl))
  simp only [List.getElem_toArray, List.getElem_cons_zero, Act.put, List.setIfInBounds_toArray, List.set_cons_zero, List.set_cons_succ]
  refine wpAnyH_take (i := 5) (v := ?v13) rfl (by kernel_rfl) (by kernel_rfl) (by kernel_rfl) (fun _ _ _ h => h) (Or.inl ⟨by rfl, ?y13⟩) (by assumption) ?r13
  case y13 => (intro w hSw; (try dsimp only at hSw); go_simp; try (with_reducible rfl))
  simp only [List.getElem_toArray, List.getElem_cons_succ, List.getElem_cons_zero, Act.put, List.setIfInBounds_toArray, List.set_cons_zero, List.set_cons_succ]
  refine wpAnyH_take (i := 1) (v := ?v14) rfl (by kernel_rfl) (by kernel_rfl) (by kernel_rfl) (fun _ _ _ h => h) (Or.inl ⟨by rfl, ?y14⟩) (by assumption) ?r14
  case y14 => (intro w hSw; (try dsimp only at hSw); go_simp; try (with_reducible rfl))
  simp only [List.getElem_toArray, List.getElem_cons_succ, List.getElem_cons_zero, Act.put, List.setIfInBounds_toArray, List.set_cons_zero, List.set_cons_succ]
  refine wpAnyH_take (i := 6) (v := ?v15) rfl (by kernel_rfl) (by kernel_rfl) (by kernel_rfl) (fun _ _ _ h => h) (Or.inl ⟨by rfl, ?y15⟩) (by assumption) ?r15
  case y15 => (intro w hSw; (try dsimp only at hSw); go_simp; try (with_reducible rfl))
  simp only [List.getElem_toArray, List.getElem_cons_succ, List.getElem_cons_zero, Act.put, List.setIfInBounds_toArray, List.set_cons_zero, List.set_cons_succ]
  refine wpAnyH_take (i := 2) (v := ?v16) rfl (by kernel_rfl) (by kernel_rfl) (by kernel_rfl) (fun _ _ _ h => h) (Or.inl ⟨by rfl, ?y16⟩) (by assumption) ?r16
  case y16 => (intro w hSw; (try dsimp only at hSw); go_simp; try (with_reducible rfl))
  simp only [List.getElem_toArray, List.getElem_cons_succ, List.getElem_cons_zero, Act.put, List.setIfInBounds_toArray, List.set_cons_zero, List.set_cons_succ]
  refine wpAnyH_take (i := 7) (v := ?v17) rfl (by kernel_rfl) (by kernel_rfl) (by kernel_rfl) (fun _ _ _ h => h) (Or.inl ⟨by rfl, ?y17⟩) (by assumption) ?r17
  case y17 => (intro w hSw; (try dsimp only at hSw); go_simp; try (with_reducible rfl))
  simp only [List.getElem_toArray, List.getElem_cons_succ, List.getElem_cons_zero, Act.put, List.setIfInBounds_toArray, List.set_cons_zero, List.set_cons_succ]
  refine wpAnyH_take (i := 3) (v := ?v18) rfl (by kernel_rfl) (by kernel_rfl) (by kernel_rfl) (fun _ _ _ h => h) (Or.inl ⟨by rfl, ?y18⟩) (by assumption) ?r18
  case y18 => (intro w hSw; (try dsimp only at hSw); go_simp; try (with_reducible rfl))
  simp only [List.getElem_toArray, List.getElem_cons_succ, List.getElem_cons_zero, Act.put, List.setIfInBounds_toArray, List.set_cons_zero, List.set_cons_succ]
  refine wpAnyH_take (i := 8) (v := ?v19) rfl (by kernel_rfl) (by kernel_rfl) (by kernel_rfl) (fun _ _ _ h => h) (Or.inl ⟨by rfl, ?y19⟩) (by assumption) ?r19
  case y19 => (intro w hSw; (try dsimp only at hSw); go_simp; try (with_reducible rfl))
  simp only [List.getElem_toArray, List.getElem_cons_succ, List.getElem_cons_zero, Act.put, List.setIfInBounds_toArray, List.set_cons_zero, List.set_cons_succ]
  refine wpAnyH_take (i := 4) (v := .slice xa na xc) rfl (by kernel_rfl) (by kernel_rfl) (by kernel_rfl) (fun _ _ _ h => h) (Or.inl ⟨by rfl, ?y20⟩) (by assumption) ?r20
  case y20 => (intro w hSw; obtain ⟨hq0, hq1, hq2, hq3, hq4⟩ := hSw; go_simp; try (with_reducible rfl))
  simp only [List.getElem_toArray, List.getElem_cons_succ, List.getElem_cons_zero, Act.put, List.setIfInBounds_toArray, List.set_cons_zero, List.set_cons_succ]
  refine wpAnyH_take (i := 9) (v := .slice ya nb yc) rfl (by kernel_rfl) (by kernel_rfl) (by kernel_rfl) (fun _ _ _ h => h) (Or.inl ⟨by rfl, ?y21⟩) (by assumption) ?r21
  case y21 => (intro w hSw; obtain ⟨hq0, hq1, hq2, hq3, hq4⟩ := hSw; go_simp; try (with_reducible rfl))
  simp only [List.getElem_toArray, List.getElem_cons_succ, List.getElem_cons_zero, Act.put, List.setIfInBounds_toArray, List.set_cons_zero, List.set_cons_succ]
  refine wpAnyH_ready (rs := [10]) (by kernel_rfl) (by simp) ?_
  refine AllReadyH.cons rfl (fun K hK => ?_) AllReadyH.nil
  simp only [List.getElem_toArray, List.getElem_cons_succ, List.getElem_cons_zero]
  go_simp
  go_at_call 34
  refine (C.out _ (HSA.out.below hHeld.2.2.2.2) (HSB.out.below hHeld.2.2.2.2)).mono ?_
  rintro e w3 ⟨v, rfl, ho, hb⟩
  have HO := hide (own_baseT ho hHeld.2.2.2.2.size)
  have HB := hide (hHeld.2.2.2.2.trans (hb.mono hHeld.2.2.2.2.size))
  have hS3 : (fun wx => wx.cell? ⟨w.heap.size, 3, none⟩ = some (.int .i64 (i : Int)) ∧ wx.cell? ⟨w.heap.size, 4, none⟩ = some (.int .i64 (j : Int)) ∧ wx.cell? ⟨tb, toff + i, none⟩ = some (.slice xa na xc) ∧ wx.cell? ⟨tb, toff + j, none⟩ = some (.slice ya nb yc) ∧ Below w.heap.size w wx) w3 := ⟨(hb.cell (p := ⟨w.heap.size, 3, none⟩) (blk_lt hHeld.1)).trans hHeld.1, (hb.cell (p := ⟨w.heap.size, 4, none⟩) (blk_lt hHeld.2.1)).trans hHeld.2.1, (hb.cell (p := ⟨tb, toff + i, none⟩) (blk_lt hHeld.2.2.1)).trans hHeld.2.2.1, (hb.cell (p := ⟨tb, toff + j, none⟩) (blk_lt hHeld.2.2.2.1)).trans hHeld.2.2.2.1, HB.out⟩
  obtain ⟨a5, c5, rfl⟩ := own_shapeT ho
  clear ho hb
  dsimp only
  refine hK.out _ _ hS3 (fun hHeld => ?_)
  clear hK K
  try simp only [Act.put, List.setIfInBounds_toArray, List.set_cons_zero, List.set_cons_succ]
  refine wpAnyH_take (i := 11) (v := ?v22) rfl (by kernel_rfl) (by kernel_rfl) (by kernel_rfl) (fun _ _ _ h => h) (Or.inl ⟨by rfl, ?y22⟩) (by assumption) ?r22
  case y22 => (intro w hSw; (try dsimp only at hSw); go_simp; try (with_reducible rfl))
  simp only [List.getElem_toArray, List.getElem_cons_succ, List.getElem_cons_zero, Act.put, List.setIfInBounds_toArray, List.set_cons_zero, List.set_cons_succ]
  refine wpAnyH_done (by kernel_rfl) ?_ _
  go_wp2
  go_ret
  exact ⟨_, rfl, HO.out, HB.out⟩

set_option maxRecDepth 100000 in
set_option maxHeartbeats 4000000 in
theorem tell5 (a : Option Addr) (ls : List (List Lb)) (n cap : Nat) (pn pv : ByteArray) (i : Nat) (ta : Option Addr) (tn tcap : Nat) (ts : List (List Int)) (w : World) (hn : ls.length = n) (hs : SlS w a ls) (hn2 : n ≤ 60) (hls : ∀ i, i < ls.length → (ls.getD i []).length ≤ 1048576) (htn : ts.length = tn) (ht : Tl w ta ts) (hok : ∀ t ∈ ts, OkT n t) (hi : i < tn) :
    Calls Try.prog 43 #[.slice a n cap, .agg #[.int .i64 5, .string pn, .string pv, .int .i64 (i : Int), .int .i64 0], .slice ta tn tcap] w fun e w' => RetI w (those (ts.getD i []) false (allN n)) e w' := by
  have hb0 : Below w.heap.size w (w.alloc (.cells #[.int .i64 5, .string pn, .string pv, .int .i64 (i : Int), .int .i64 0] 51)) := (Below.refl _ _).alloc (Nat.le_refl _) _
  have HB0 := hide hb0
  have ha := ht i (by rw [htn]; exact hi)
  obtain ⟨tb, toff, rfl, xa, xc, hca, hsa⟩ := ha
  have oka := getD_ok hok i
  obtain ⟨ta1, hta⟩ : ∃ t, t = ts.getD i [] := ⟨_, rfl⟩
  rw [← hta] at hca hsa oka ⊢
  have la := okT_len oka
  obtain ⟨na, hna⟩ : ∃ t, t = ta1.length := ⟨_, rfl⟩
  rw [← hna] at hca hsa la
  have C0 := hide (fun w => allSeries_any a n cap w (by omega))
  have C := hide (fun w oa ocap (h1 : SlC w oa n ocap (allN n)) (h2 : SlC w xa na xc ta1) => without_any oa (allN n) n ocap xa ta1 na xc w (allN_len n) h1 (by omega) hna.symm h2 (by omega) (allN_rise n) oka.1)
  have hca0 := (hb0.cell (p := ⟨tb, toff + i, none⟩) (blk_lt hca)).trans hca
  have HSA := hide hsa
  have hiI : (i : Int) < (tn : Int) := by omega
  obtain ⟨W0, hW0⟩ : ∃ W0, w.alloc (.cells #[.int .i64 5, .string pn, .string pv, .int .i64 (i : Int), .int .i64 0] 51) = W0 := ⟨_, rfl⟩
  have c0 : W0.cell? ⟨w.heap.size, 3, none⟩ = some (.int .i64 (i : Int)) := by rw [← hW0]; simp
  have ck : W0.cell? ⟨w.heap.size, 0, none⟩ = some (.int .i64 5) := by rw [← hW0]; simp
  rw [hW0] at hca0 HB0
  have HW := hide hW0
  clear hn hs hls htn ht hok hb0 hta hna oka hca hsa hW0
  go_enter Try.func43, Try.ntmps43
  go_wp2
  rw [HW.out]
  refine wp_region_held_drew (S := (fun wx => wx.cell? ⟨w.heap.size, 3, none⟩ = some (.int .i64 (i : Int)) ∧ wx.cell? ⟨tb, toff + i, none⟩ = some (.slice xa na xc) ∧ Below w.heap.size w wx)) (by kernel_rfl) ⟨c0, hca0, HB0.out.drew⟩ (fun hHeld => ?_)
  refine wpAnyH_take (i := 0) (v := ?v23) rfl (by kernel_rfl) (by kernel_rfl) (by kernel_rfl) (fun _ _ _ h => h) (Or.inl ⟨by rfl, ?y23⟩) (by assumption) ?r23
  case y23 => (intro w hSw; (try dsimp only at hSw); go_simp; try (with_reducible rfl))
  simp only [List.getElem_toArray, List.getElem_cons_zero, Act.put, List.setIfInBounds_toArray, List.set_cons_zero, List.set_cons_succ]
  refine wpAnyH_take (i := 2) (v := ?v24) rfl (by kernel_rfl) (by kernel_rfl) (by kernel_rfl) (fun _ _ _ h => h) (Or.inl ⟨by rfl, ?y24⟩) (by assumption) ?r24
  case y24 => (intro w hSw; (try dsimp only at hSw); go_simp; try (with_reducible rfl))
  simp only [List.getElem_toArray, List.getElem_cons_succ, List.getElem_cons_zero, Act.put, List.setIfInBounds_toArray, List.set_cons_zero, List.set_cons_succ]
  refine wpAnyH_take (i := 3) (v := ?v25) rfl (by kernel_rfl) (by kernel_rfl) (by kernel_rfl) (fun _ _ _ h => h) (Or.inl ⟨by rfl, ?y25⟩) (by assumption) ?r25
  case y25 => (intro w hSw; (try dsimp only at hSw); go_simp; try (with_reducible rfl))
  simp only [List.getElem_toArray, List.getElem_cons_succ, List.getElem_cons_zero, Act.put, List.setIfInBounds_toArray, List.set_cons_zero, List.set_cons_succ]
  refine wpAnyH_take (i := 4) (v := ?v26) rfl (by kernel_rfl) (by kernel_rfl) (by kernel_rfl) (fun _ _ _ h => h) (Or.inl ⟨by rfl, ?y26⟩) (by assumption) ?r26
  case y26 => (intro w hSw; (try dsimp only at hSw); go_simp; try (with_reducible rfl))
  simp only [List.getElem_toArray, List.getElem_cons_succ, List.getElem_cons_zero, Act.put, List.setIfInBounds_toArray, List.set_cons_zero, List.set_cons_succ]
  refine wpAnyH_take (i := 5) (v := ?v27) rfl (by kernel_rfl) (by kernel_rfl) (by kernel_rfl) (fun _ _ _ h => h) (Or.inl ⟨by rfl, ?y27⟩) (by assumption) ?r27
  case y27 => (intro w hSw; (try dsimp only at hSw); go_simp; try (with_reducible rfl))
  simp only [List.getElem_toArray, List.getElem_cons_succ, List.getElem_cons_zero, Act.put, List.setIfInBounds_toArray, List.set_cons_zero, List.set_cons_succ]
  refine wpAnyH_take (i := 6) (v := .slice xa na xc) rfl (by kernel_rfl) (by kernel_rfl) (by kernel_rfl) (fun _ _ _ h => h) (Or.inl ⟨by rfl, ?y28⟩) (by assumption) ?r28
  case y28 => (intro w hSw; obtain ⟨hq0, hq1, hq2⟩ := hSw; go_simp; try (with_reducible rfl))
  simp only [List.getElem_toArray, List.getElem_cons_succ, List.getElem_cons_zero, Act.put, List.setIfInBounds_toArray, List.set_cons_zero, List.set_cons_succ]
  refine wpAnyH_ready (rs := [1]) (by kernel_rfl) (by simp) ?_
  refine AllReadyH.cons rfl (fun K hK => ?_) AllReadyH.nil
  simp only [List.getElem_toArray, List.getElem_cons_succ, List.getElem_cons_zero]
  go_simp
  go_at_call 65
  refine (C0.out _).mono ?_
  rintro e w2 ⟨v, rfl, ho, hb⟩
  rw [allN_len] at ho
  have hS2 : (fun wx => wx.cell? ⟨w.heap.size, 3, none⟩ = some (.int .i64 (i : Int)) ∧ wx.cell? ⟨tb, toff + i, none⟩ = some (.slice xa na xc) ∧ Below w.heap.size w wx) w2 := ⟨(hb.cell (p := ⟨w.heap.size, 3, none⟩) (blk_lt hHeld.1)).trans hHeld.1, (hb.cell (p := ⟨tb, toff + i, none⟩) (blk_lt hHeld.2.1)).trans hHeld.2.1, hHeld.2.2.trans (hb.mono hHeld.2.2.size)⟩
  obtain ⟨oa, ocap, rfl, sc, _⟩ := own_formC ho
  have SC := hide sc
  clear ho hb sc
  dsimp only
  refine hK.out _ _ hS2 (fun hHeld => ?_)
  clear hK K
  try simp only [Act.put, List.setIfInBounds_toArray, List.set_cons_zero, List.set_cons_succ]
  refine wpAnyH_ready (rs := [7]) (by kernel_rfl) (by simp) ?_
  refine AllReadyH.cons rfl (fun K hK => ?_) AllReadyH.nil
  simp only [List.getElem_toArray, List.getElem_cons_succ, List.getElem_cons_zero]
  go_simp
  go_at_call 36
  refine (C.out _ _ _ SC.out (HSA.out.below hS2.2.2)).mono ?_
  rintro e w3 ⟨v, rfl, ho, hb⟩
  have HO := hide (own_baseT ho hS2.2.2.size)
  have HB := hide (hS2.2.2.trans (hb.mono hS2.2.2.size))
  have hS3 : (fun wx => wx.cell? ⟨w.heap.size, 3, none⟩ = some (.int .i64 (i : Int)) ∧ wx.cell? ⟨tb, toff + i, none⟩ = some (.slice xa na xc) ∧ Below w.heap.size w wx) w3 := ⟨(hb.cell (p := ⟨w.heap.size, 3, none⟩) (blk_lt hS2.1)).trans hS2.1, (hb.cell (p := ⟨tb, toff + i, none⟩) (blk_lt hS2.2.1)).trans hS2.2.1, HB.out⟩
  obtain ⟨a5, c5, rfl⟩ := own_shapeT ho
  clear ho hb
  dsimp only
  refine hK.out _ _ hS3 (fun hHeld => ?_)
  clear hK K
  try simp only [Act.put, List.setIfInBounds_toArray, List.set_cons_zero, List.set_cons_succ]
  refine wpAnyH_take (i := 8) (v := ?v29) rfl (by kernel_rfl) (by kernel_rfl) (by kernel_rfl) (fun _ _ _ h => h) (Or.inl ⟨by rfl, ?y29⟩) (by assumption) ?r29
  case y29 => (intro w hSw; (try dsimp only at hSw); go_simp; try (with_reducible rfl))
  simp only [List.getElem_toArray, List.getElem_cons_succ, List.getElem_cons_zero, Act.put, List.setIfInBounds_toArray, List.set_cons_zero, List.set_cons_succ]
  refine wpAnyH_done (by kernel_rfl) ?_ _
  go_wp2
  go_ret
  exact ⟨_, rfl, HO.out, HB.out⟩

/-- What a good part tells. -/
theorem tellPart_any (a : Option Addr) (ls : List (List Lb)) (n cap : Nat) (p : Qr) (ta : Option Addr) (tn tcap : Nat) (ts : List (List Int)) (w : World) (hn : ls.length = n) (hs : SlS w a ls) (hn2 : n ≤ 60) (hls : ∀ i, i < ls.length → (ls.getD i []).length ≤ 1048576) (htn : ts.length = tn) (ht : Tl w ta ts) (hok : ∀ t ∈ ts, OkT n t) (hp : okQ tn p) :
    Calls Try.prog 43 #[.slice a n cap, svQ p, .slice ta tn tcap] w fun e w' => RetI w (partL ls p ts) e w' := by
  obtain ⟨k, pn, pv, pa, pb⟩ := p
  rcases hp with h | h | h | h
  · obtain ⟨h1, h2, h3, h4, h5⟩ := h
    simp only at h1 h2 h3 h4 h5
    subst h1; subst h4; subst h5
    have e : partL ls ⟨1, pn, pv, 0, 0⟩ ts = allN n := by simp [partL, hn]
    rw [e]
    exact tell1 a ls n cap pn pv ta tn tcap ts w hn hs hn2 hls htn ht hok
  · obtain ⟨h1, h2, h3, h4⟩ := h
    simp only at h1 h2 h3 h4
    subst h1; subst h3; subst h4
    have e : partL ls ⟨2, pn, pv, 0, 0⟩ ts = hav ls (pn, pv) n := by simp [partL, hn]
    rw [e]
    exact tell2 a ls n cap pn pv ta tn tcap ts w hn hs hn2 hls htn ht hok
  · obtain ⟨h1, h2, h3, h4, h5⟩ := h
    simp only at h1 h2 h3 h4 h5
    obtain ⟨i, rfl⟩ : ∃ i : Nat, pa = (i : Int) := ⟨pa.toNat, by omega⟩
    obtain ⟨j, rfl⟩ : ∃ j : Nat, pb = (j : Int) := ⟨pb.toNat, by omega⟩
    rcases h1 with rfl | rfl
    · have e : partL ls ⟨3, pn, pv, (i : Int), (j : Int)⟩ ts = those (ts.getD j []) true (ts.getD i []) := by simp [partL]
      rw [e]
      exact tell3 a ls n cap pn pv i j ta tn tcap ts w hn hs hn2 hls htn ht hok (by omega) (by omega)
    · have e : partL ls ⟨4, pn, pv, (i : Int), (j : Int)⟩ ts = joinL (ts.getD i []) (ts.getD j []) := by simp [partL]
      rw [e]
      exact tell4 a ls n cap pn pv i j ta tn tcap ts w hn hs hn2 hls htn ht hok (by omega) (by omega)
  · obtain ⟨h1, h2, h3, h4, h5⟩ := h
    simp only at h1 h2 h3 h4 h5
    obtain ⟨i, rfl⟩ : ∃ i : Nat, pa = (i : Int) := ⟨pa.toNat, by omega⟩
    subst h1; subst h5
    have e : partL ls ⟨5, pn, pv, (i : Int), 0⟩ ts = those (ts.getD i []) false (allN n) := by simp [partL, hn]
    rw [e]
    exact tell5 a ls n cap pn pv i ta tn tcap ts w hn hs hn2 hls htn ht hok (by omega)
end Go.Proofs.Ythicdnkngpiccab.L4
