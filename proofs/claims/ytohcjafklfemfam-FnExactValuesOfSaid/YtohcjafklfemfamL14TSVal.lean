/-
  Contracts: spec.l14Values, spec.ValuesOf: of each total what the op tells, in new memory.
-/
import Derived.Test.YtohcjafklfemfamL14TValM
import Derived.Test.YtohcjafklfemfamL14TSGood
import Derived.Maps.AppendAt
namespace Go.Proofs.Ytohcjafklfemfam.L14T
open Go.RowKit L1 L3
set_option linter.unusedVariables false

set_option maxRecDepth 100000 in
set_option maxHeartbeats 4000000 in
theorem sValues_any (a : Option Addr) (L : List Rw) (n cap : Nat) (op : Int) (w : World) (hn : L.length = n) (hn2 : n ≤ 1048576) (hs : SlR w a L) (hop : okOp op) :
    Calls Try.prog 50 #[.slice a n cap, .int .i64 op] w fun e w' => ∃ v, e = .returned v ∧ w'.ownsRow w.heap.size 3 1 v n (vals op L) ∧ Below w.heap.size w w' := by
  have HS := hide hs
  have HN := hide hn
  obtain ⟨i1, hi1, hy0, hy1, hy2⟩ := info_parts info_int
  clear hs hn
  rcases hop with rfl | rfl | rfl | rfl
  · go_enter Try.func50, Try.ntmps50
    go_wp2
    go_loopw [5, 11] (fun ot i wr => ∃ k : Nat, k ≤ n ∧ i = .int .i64 k ∧ wr.ownsRow w.heap.size 3 1 ot k (vals 1 (L.take k)) ∧ Below w.heap.size w wr) (fun _ i _ => n - (intOf i).toNat)
    case atStart => exact ⟨0, Nat.zero_le _, rfl, by rw [vals_zero]; exact World.ownsRow_nil _ _ _ _, Below.refl _ _⟩
    case round =>
      obtain ⟨k, hk, rfl, hown, hbel⟩ := hrel
      obtain ⟨oa, ocap, rfl⟩ := own_shapeV hown
      by_cases hlt : k < n
      · have hkx : k < L.length := by rw [HN.out]; exact hlt
        obtain ⟨b, off, rfl, ai, ci, hat⟩ := HS.out.below hbel k hkx
        have hvt := vals_take 1 L k hkx
        obtain ⟨x0, x1, x2, x3, x4, t1⟩ := hat
        obtain ⟨p, hp⟩ : ∃ p, p = gr L k := ⟨_, rfl⟩
        rw [← hp] at x0 x1 x2 x3 x4 hvt
        obtain ⟨x, v0, v1, v2, v3⟩ := p
        simp only at x0 x1 x2 x3 x4
        have hvf : valOf 1 ⟨x, v0, v1, v2, v3⟩ = v0 := rfl
        rw [hvf] at hvt
        obtain ⟨m, hm2⟩ : ∃ m, m = x.length := ⟨_, rfl⟩
        rw [← hm2] at x0
        have hltI : (k : Int) < (n : Int) := by omega
        have HVT := hide hvt
        have HROW := hide hown
        have hsz := hbel.size
        have B0 := hide hbel
        clear hp t1 hm2 hvt hvf hown hbel hkx
        go_wp2_with (first
          | (at_builtin; refine wpList_append_own _ rfl _ _ 37 rfl w.heap.size 3 i1 (.int .i64 0) 1 8 Try.underlying37 hi1 hy0 hy1 hy2 rfl (by decide) _ _ _ rfl ((HROW.out.alloc _).alloc _) ⟨wr.heap.size + 1, 0, none⟩ 1 1 [.int .i64 v0] rfl rfl (cell_one2V _ _ _ _) (by intro u hu; simp at hu; subst hu; rfl) (by unfold maxLen; omega) (by omega) (by simp; omega) ?_)
          | go_in)
        intro v6 w6 hown6 hgrow6 _
        have hb6 := B0.out.trans (((Below.refl _ _).alloc hsz _).alloc (by simp; omega) _ |>.grown hgrow6 (by simp; omega) (fun g hg => (HROW.out.lt g hg).1))
        have hown7 := hide (show w6.ownsRow w.heap.size 3 1 v6 (k + 1) (vals 1 (L.take (k + 1))) by rw [HVT.out]; exact hown6)
        clear hown6 hgrow6
        go_wp2
        go_roundw
        case rel => exact ⟨k + 1, by omega, by go_num, hown7.out, hb6⟩
        case measure => simp [intOf]; omega
      · obtain rfl : k = n := by omega
        have hltI : ¬ (k : Int) < (k : Int) := by omega
        have e1 : L.take k = L := List.take_of_length_le (by rw [HN.out]; exact Nat.le_refl _)
        rw [e1] at hown
        have HROW := hide hown
        have B0 := hide hbel
        clear e1 hown hbel
        go_wp2
        go_ret
        exact ⟨_, rfl, HROW.out, B0.out⟩
  · go_enter Try.func50, Try.ntmps50
    go_wp2
    go_loopw [5, 11] (fun ot i wr => ∃ k : Nat, k ≤ n ∧ i = .int .i64 k ∧ wr.ownsRow w.heap.size 3 1 ot k (vals 2 (L.take k)) ∧ Below w.heap.size w wr) (fun _ i _ => n - (intOf i).toNat)
    case atStart => exact ⟨0, Nat.zero_le _, rfl, by rw [vals_zero]; exact World.ownsRow_nil _ _ _ _, Below.refl _ _⟩
    case round =>
      obtain ⟨k, hk, rfl, hown, hbel⟩ := hrel
      obtain ⟨oa, ocap, rfl⟩ := own_shapeV hown
      by_cases hlt : k < n
      · have hkx : k < L.length := by rw [HN.out]; exact hlt
        obtain ⟨b, off, rfl, ai, ci, hat⟩ := HS.out.below hbel k hkx
        have hvt := vals_take 2 L k hkx
        obtain ⟨x0, x1, x2, x3, x4, t1⟩ := hat
        obtain ⟨p, hp⟩ : ∃ p, p = gr L k := ⟨_, rfl⟩
        rw [← hp] at x0 x1 x2 x3 x4 hvt
        obtain ⟨x, v0, v1, v2, v3⟩ := p
        simp only at x0 x1 x2 x3 x4
        have hvf : valOf 2 ⟨x, v0, v1, v2, v3⟩ = v1 := rfl
        rw [hvf] at hvt
        obtain ⟨m, hm2⟩ : ∃ m, m = x.length := ⟨_, rfl⟩
        rw [← hm2] at x0
        have hltI : (k : Int) < (n : Int) := by omega
        have HVT := hide hvt
        have HROW := hide hown
        have hsz := hbel.size
        have B0 := hide hbel
        clear hp t1 hm2 hvt hvf hown hbel hkx
        go_wp2_with (first
          | (at_builtin; refine wpList_append_own _ rfl _ _ 37 rfl w.heap.size 3 i1 (.int .i64 0) 1 8 Try.underlying37 hi1 hy0 hy1 hy2 rfl (by decide) _ _ _ rfl ((HROW.out.alloc _).alloc _) ⟨wr.heap.size + 1, 0, none⟩ 1 1 [.int .i64 v1] rfl rfl (cell_one2V _ _ _ _) (by intro u hu; simp at hu; subst hu; rfl) (by unfold maxLen; omega) (by omega) (by simp; omega) ?_)
          | go_in)
        intro v6 w6 hown6 hgrow6 _
        have hb6 := B0.out.trans (((Below.refl _ _).alloc hsz _).alloc (by simp; omega) _ |>.grown hgrow6 (by simp; omega) (fun g hg => (HROW.out.lt g hg).1))
        have hown7 := hide (show w6.ownsRow w.heap.size 3 1 v6 (k + 1) (vals 2 (L.take (k + 1))) by rw [HVT.out]; exact hown6)
        clear hown6 hgrow6
        go_wp2
        go_roundw
        case rel => exact ⟨k + 1, by omega, by go_num, hown7.out, hb6⟩
        case measure => simp [intOf]; omega
      · obtain rfl : k = n := by omega
        have hltI : ¬ (k : Int) < (k : Int) := by omega
        have e1 : L.take k = L := List.take_of_length_le (by rw [HN.out]; exact Nat.le_refl _)
        rw [e1] at hown
        have HROW := hide hown
        have B0 := hide hbel
        clear e1 hown hbel
        go_wp2
        go_ret
        exact ⟨_, rfl, HROW.out, B0.out⟩
  · go_enter Try.func50, Try.ntmps50
    go_wp2
    go_loopw [5, 11] (fun ot i wr => ∃ k : Nat, k ≤ n ∧ i = .int .i64 k ∧ wr.ownsRow w.heap.size 3 1 ot k (vals 3 (L.take k)) ∧ Below w.heap.size w wr) (fun _ i _ => n - (intOf i).toNat)
    case atStart => exact ⟨0, Nat.zero_le _, rfl, by rw [vals_zero]; exact World.ownsRow_nil _ _ _ _, Below.refl _ _⟩
    case round =>
      obtain ⟨k, hk, rfl, hown, hbel⟩ := hrel
      obtain ⟨oa, ocap, rfl⟩ := own_shapeV hown
      by_cases hlt : k < n
      · have hkx : k < L.length := by rw [HN.out]; exact hlt
        obtain ⟨b, off, rfl, ai, ci, hat⟩ := HS.out.below hbel k hkx
        have hvt := vals_take 3 L k hkx
        obtain ⟨x0, x1, x2, x3, x4, t1⟩ := hat
        obtain ⟨p, hp⟩ : ∃ p, p = gr L k := ⟨_, rfl⟩
        rw [← hp] at x0 x1 x2 x3 x4 hvt
        obtain ⟨x, v0, v1, v2, v3⟩ := p
        simp only at x0 x1 x2 x3 x4
        have hvf : valOf 3 ⟨x, v0, v1, v2, v3⟩ = v2 := rfl
        rw [hvf] at hvt
        obtain ⟨m, hm2⟩ : ∃ m, m = x.length := ⟨_, rfl⟩
        rw [← hm2] at x0
        have hltI : (k : Int) < (n : Int) := by omega
        have HVT := hide hvt
        have HROW := hide hown
        have hsz := hbel.size
        have B0 := hide hbel
        clear hp t1 hm2 hvt hvf hown hbel hkx
        go_wp2_with (first
          | (at_builtin; refine wpList_append_own _ rfl _ _ 37 rfl w.heap.size 3 i1 (.int .i64 0) 1 8 Try.underlying37 hi1 hy0 hy1 hy2 rfl (by decide) _ _ _ rfl ((HROW.out.alloc _).alloc _) ⟨wr.heap.size + 1, 0, none⟩ 1 1 [.int .i64 v2] rfl rfl (cell_one2V _ _ _ _) (by intro u hu; simp at hu; subst hu; rfl) (by unfold maxLen; omega) (by omega) (by simp; omega) ?_)
          | go_in)
        intro v6 w6 hown6 hgrow6 _
        have hb6 := B0.out.trans (((Below.refl _ _).alloc hsz _).alloc (by simp; omega) _ |>.grown hgrow6 (by simp; omega) (fun g hg => (HROW.out.lt g hg).1))
        have hown7 := hide (show w6.ownsRow w.heap.size 3 1 v6 (k + 1) (vals 3 (L.take (k + 1))) by rw [HVT.out]; exact hown6)
        clear hown6 hgrow6
        go_wp2
        go_roundw
        case rel => exact ⟨k + 1, by omega, by go_num, hown7.out, hb6⟩
        case measure => simp [intOf]; omega
      · obtain rfl : k = n := by omega
        have hltI : ¬ (k : Int) < (k : Int) := by omega
        have e1 : L.take k = L := List.take_of_length_le (by rw [HN.out]; exact Nat.le_refl _)
        rw [e1] at hown
        have HROW := hide hown
        have B0 := hide hbel
        clear e1 hown hbel
        go_wp2
        go_ret
        exact ⟨_, rfl, HROW.out, B0.out⟩
  · go_enter Try.func50, Try.ntmps50
    go_wp2
    go_loopw [5, 11] (fun ot i wr => ∃ k : Nat, k ≤ n ∧ i = .int .i64 k ∧ wr.ownsRow w.heap.size 3 1 ot k (vals 4 (L.take k)) ∧ Below w.heap.size w wr) (fun _ i _ => n - (intOf i).toNat)
    case atStart => exact ⟨0, Nat.zero_le _, rfl, by rw [vals_zero]; exact World.ownsRow_nil _ _ _ _, Below.refl _ _⟩
    case round =>
      obtain ⟨k, hk, rfl, hown, hbel⟩ := hrel
      obtain ⟨oa, ocap, rfl⟩ := own_shapeV hown
      by_cases hlt : k < n
      · have hkx : k < L.length := by rw [HN.out]; exact hlt
        obtain ⟨b, off, rfl, ai, ci, hat⟩ := HS.out.below hbel k hkx
        have hvt := vals_take 4 L k hkx
        obtain ⟨x0, x1, x2, x3, x4, t1⟩ := hat
        obtain ⟨p, hp⟩ : ∃ p, p = gr L k := ⟨_, rfl⟩
        rw [← hp] at x0 x1 x2 x3 x4 hvt
        obtain ⟨x, v0, v1, v2, v3⟩ := p
        simp only at x0 x1 x2 x3 x4
        have hvf : valOf 4 ⟨x, v0, v1, v2, v3⟩ = v3 := rfl
        rw [hvf] at hvt
        obtain ⟨m, hm2⟩ : ∃ m, m = x.length := ⟨_, rfl⟩
        rw [← hm2] at x0
        have hltI : (k : Int) < (n : Int) := by omega
        have HVT := hide hvt
        have HROW := hide hown
        have hsz := hbel.size
        have B0 := hide hbel
        clear hp t1 hm2 hvt hvf hown hbel hkx
        go_wp2_with (first
          | (at_builtin; refine wpList_append_own _ rfl _ _ 37 rfl w.heap.size 3 i1 (.int .i64 0) 1 8 Try.underlying37 hi1 hy0 hy1 hy2 rfl (by decide) _ _ _ rfl ((HROW.out.alloc _).alloc _) ⟨wr.heap.size + 1, 0, none⟩ 1 1 [.int .i64 v3] rfl rfl (cell_one2V _ _ _ _) (by intro u hu; simp at hu; subst hu; rfl) (by unfold maxLen; omega) (by omega) (by simp; omega) ?_)
          | go_in)
        intro v6 w6 hown6 hgrow6 _
        have hb6 := B0.out.trans (((Below.refl _ _).alloc hsz _).alloc (by simp; omega) _ |>.grown hgrow6 (by simp; omega) (fun g hg => (HROW.out.lt g hg).1))
        have hown7 := hide (show w6.ownsRow w.heap.size 3 1 v6 (k + 1) (vals 4 (L.take (k + 1))) by rw [HVT.out]; exact hown6)
        clear hown6 hgrow6
        go_wp2
        go_roundw
        case rel => exact ⟨k + 1, by omega, by go_num, hown7.out, hb6⟩
        case measure => simp [intOf]; omega
      · obtain rfl : k = n := by omega
        have hltI : ¬ (k : Int) < (k : Int) := by omega
        have e1 : L.take k = L := List.take_of_length_le (by rw [HN.out]; exact Nat.le_refl _)
        rw [e1] at hown
        have HROW := hide hown
        have B0 := hide hbel
        clear e1 hown hbel
        go_wp2
        go_ret
        exact ⟨_, rfl, HROW.out, B0.out⟩
open Classical in
set_option maxRecDepth 100000 in
set_option maxHeartbeats 1000000 in
theorem specValuesOf_any (a : Option Addr) (L : List Rw) (n cap : Nat) (op : Int) (w : World) (hn : L.length = n) (hm : n ≤ 1048576) (hs : SlR w a L) (hst : TxR L) (hlx : ∀ j, j < L.length → (gr L j).l.length ≤ 1048576) (r : Option (List Int)) (hr : r = valRes L op) :
    Calls Try.prog 21 #[.slice a n cap, .int .i64 op] w fun e w' => RetI w r e w' := by
  have HS := hide hs
  by_cases hg : GoodT L
  · have CG := hide (specGoodTotals_any a L n cap w hn hm hs hst hlx true (by simp [hg]))
    by_cases hop : okOp op
    · have CI := hide (fun w => Own.l1In_any op 1 4 w true ⟨fun _ => (okOp_iff op).1 hop, fun _ => rfl⟩)
      have hr' : r = some (L.map (valOf op)) := by rw [hr]; unfold valRes; rw [if_pos ⟨hg, hop⟩]
      have HR := hide hr'
      have HN := hide hn
      have CK := hide (fun w hs => sValues_any a L n cap op w hn hm hs hop)
      clear hr hr' hg hs hst hlx hop hn
      go_enter Try.func21, Try.ntmps21
      go_wp2_with fail
      refine CG.out.mono ?_
      rintro e w1 ⟨rfl, hb1⟩
      have B1 := hide hb1
      clear hb1
      go_wp2_with fail
      refine (CI.out _).mono ?_
      rintro e w2 ⟨rfl, rfl⟩
      go_wp2_with fail
      refine (CK.out _ (HS.out.below B1.out)).mono ?_
      rintro e w2 ⟨v, rfl, ho, hb⟩
      have HO := hide (own_baseR ho B1.out.size)
      have B2 := hide (B1.out.trans (hb.mono B1.out.size))
      clear ho hb
      go_wp2
      go_ret2
      exact ⟨v, by rw [HR.out]; rfl, by rw [HR.out]; simp only [Option.getD_some, List.length_map]; rw [HN.out, ← vals_ints]; exact HO.out, B2.out⟩
    · have CI := hide (fun w => Own.l1In_any op 1 4 w false ⟨fun h => absurd h (by simp), fun h => absurd ((okOp_iff op).2 h) hop⟩)
      have hr' : r = none := by rw [hr]; unfold valRes; rw [if_neg (fun h => hop h.2)]
      have HR := hide hr'
      clear hr hr' hg hs hst hlx hop hn
      go_enter Try.func21, Try.ntmps21
      go_wp2_with fail
      refine CG.out.mono ?_
      rintro e w1 ⟨rfl, hb1⟩
      have B1 := hide hb1
      clear hb1
      go_wp2_with fail
      refine (CI.out _).mono ?_
      rintro e w2 ⟨rfl, rfl⟩
      go_wp2
      go_ret2
      exact ⟨_, by rw [HR.out]; rfl, by rw [HR.out]; exact World.ownsRow_nil _ _ _ _, B1.out⟩
  · have CG := hide (specGoodTotals_any a L n cap w hn hm hs hst hlx false (by simp [hg]))
    have hr' : r = none := by rw [hr]; unfold valRes; rw [if_neg (fun h => hg h.1)]
    have HR := hide hr'
    clear hr hr' hg hs hst hlx hn
    go_enter Try.func21, Try.ntmps21
    go_wp2_with fail
    refine CG.out.mono ?_
    rintro e w1 ⟨rfl, hb1⟩
    have B1 := hide hb1
    clear hb1
    go_wp2
    go_ret2
    exact ⟨_, by rw [HR.out]; rfl, by rw [HR.out]; exact World.ownsRow_nil _ _ _ _, B1.out⟩
end Go.Proofs.Ytohcjafklfemfam.L14T
