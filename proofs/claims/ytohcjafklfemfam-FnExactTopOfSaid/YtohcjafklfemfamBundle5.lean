/-
  Contract: impl.LabelsText: the text of good labels, and true; else no text and false.
  Contracts: impl.isItemValue, impl.goodTotal, impl.labelsOfTotal; impl.GoodTotals tells whether totals are good.
  Contracts: impl.valueOf, impl.ValuesOf's closure, impl.eachAs over it, impl.ValuesOf: of each total what the op tells, in new memory.
  Contracts: impl.greatestFirst: all places, from the greatest down, of alike ones the first ahead.
  Contracts: slices.Clone of ints; impl.TopOf: the numbers of the first ones, from the greatest down, in new memory.
  The first places in order, and one more put among them. Nothing of the program's text is proved here.
  'append' of ints behind ints of a call's own. Nothing of the program's text is proved here but closed facts on its types.
  Contract: spec.l1In.
-/
import Derived.Test.YtohcjafklfemfamBundle4
import Derived.Maps.AppendAt
import Derived.Test.YtohcjafklfemfamBundle2
import Derived.Deep.RegionHeld3
import Derived.Deep.QuietTactic
import Derived.BigQuiet
import Derived.Test.YtohcjafklfemfamBundle3
import Derived.Deep.Upon
import Derived.Test.YtohcjafklfemfamBundle1
namespace Go.Proofs.Ytohcjafklfemfam.L3
open Go.RowKit L1
set_option linter.unusedVariables false

theorem info_str : (Try.prog.info? 9).map (fun i => (i.zero, i.size, i.bytes)) = some (some (.string ByteArray.empty), 1, 16) := by kernel_rfl
theorem own_shape {w : World} {base n c : Nat} {t : TypeId} {v : Value} {xs : List Value} (h : w.ownsRow base t c v n xs) : ∃ a cap, v = .slice a n cap := by
  rcases h.2 with ⟨hv, h0⟩ | ⟨g, cap, cur, hv, _⟩
  · exact ⟨none, 0, by rw [hv, h0]⟩
  · exact ⟨_, cap, hv⟩
theorem cell_one_new2 (w : World) (o : Obj) (p : Value) (t : TypeId) : ∀ j u, [p][j]? = some u → ((w.alloc o).alloc (.cells #[p] t)).cell? ((⟨w.heap.size + 1, 0, none⟩ : Addr).add j) = some u := by
  intro j u h
  match j, h with
  | 0, h => simp at h; subst h; rw [addr_add]; have : (w.alloc o).heap.size = w.heap.size + 1 := by simp
            rw [← this]; simp
  | j + 1, h => simp at h
theorem row_some {w : World} {base n : Nat} {t : TypeId} {v : Value} {xs : List Value} (h : w.ownsRow base t 1 v n xs) (hn : n ≠ 0) : ∃ g cap, v = .slice (some ⟨g, 0, none⟩) n cap ∧ n ≤ cap ∧ g < w.heap.size ∧ ∀ (j : Nat) u, xs[j]? = some u → w.cell? ⟨g, 0 + j, none⟩ = some u := by
  rcases h.2 with ⟨_, h0⟩ | ⟨g, cap, cur, hv, hb, hg, hc, r⟩
  · exact absurd h0 hn
  · subst hv
    refine ⟨g, cap, rfl, hc, (h.lt g rfl).2, fun j u hu => ?_⟩
    have := h.cells (g := g) rfl j u hu
    rw [addr_add] at this
    simpa using this

open Classical in
set_option maxRecDepth 100000 in
set_option maxHeartbeats 2000000 in
theorem labelsText_any (a : Option Addr) (l : List Lb) (n cap : Nat) (w : World) (hn : l.length = n) (hs : SlL w a l) (hn2 : n ≤ 1048576) (hst : ∀ j, j < l.length → (l.getD j eL).1.size ≤ 9223372036854775807 ∧ (l.getD j eL).2.size ≤ 9223372036854775807) (r : Option ByteArray) (hr : r = txRes l) :
    Calls Try.prog 66 #[.slice a n cap] w fun e w' => e = .returned (.tuple #[.string (r.getD ByteArray.empty), .bool r.isSome]) ∧ Below w.heap.size w w' := by
  by_cases hg : GoodL l
  · have C1 := hide (goodLabels_any a l n cap w hn hs hn2 hst true (by simp [hg]))
    have h6 : n ≤ 6 := by have := hg.1; omega
    have HS := hide hs
    have HN := hide hn
    have HZ := hide (good_sizes hg)
    have hr' : r = some (ltext l) := by rw [hr]; unfold txRes; rw [if_pos hg]
    rw [ltext_join] at hr'
    have hjs := join_size hg
    have HR := hide hr'
    have HJS := hide hjs
    obtain ⟨i1, hi1, hy0, hy1, hy2⟩ := info_parts info_str
    clear hr hr' hg hs hn hst hjs
    go_enter Try.func66, Try.ntmps66
    go_wp2_with fail
    refine C1.out.mono ?_
    rintro e w1 ⟨rfl, hb1⟩
    have B1 := hide hb1
    clear hb1
    go_wp2
    go_loopw [4, 12] (fun ot i wr => ∃ k : Nat, k ≤ n ∧ i = .int .i64 k ∧ wr.ownsRow w.heap.size 9 1 ot k ((l.take k).map fun p => Value.string (lw p)) ∧ Below w.heap.size w wr) (fun _ i _ => n - (intOf i).toNat)
    case atStart => exact ⟨0, Nat.zero_le _, rfl, World.ownsRow_nil _ _ _ _, B1.out⟩
    case round =>
      obtain ⟨k, hk, rfl, hown, hbel⟩ := hrel
      by_cases hlt : k < n
      · obtain ⟨oa, ocap, rfl⟩ := own_shape hown
        obtain ⟨b, off, rfl, hc0, hd0⟩ := HS.out k (by rw [HN.out]; exact hlt)
        have hc := (hbel.cell (p := ⟨b, off + k * 2, none⟩) (blk_lt hc0)).trans hc0
        have hd := (hbel.cell (p := ⟨b, off + k * 2 + 1, none⟩) (blk_lt hd0)).trans hd0
        have hltI : (k : Int) < (n : Int) := by omega
        have hz := HZ.out k (by rw [HN.out]; exact hlt)
        have htk : (l.take (k + 1)).map (fun p => Value.string (lw p)) = (l.take k).map (fun p => Value.string (lw p)) ++ [Value.string (lw (l.getD k eL))] := by
          have hkl : k < l.length := by rw [HN.out]; exact hlt
          have eg : l.getD k eL = l[k] := by simp only [List.getD, List.getElem?_eq_getElem hkl, Option.getD_some]
          rw [List.take_succ_eq_append_getElem hkl, List.map_append, List.map_cons, List.map_nil, eg]
        unfold lw at htk
        obtain ⟨x, hx⟩ : ∃ x, x = (l.getD k eL).1 := ⟨_, rfl⟩
        obtain ⟨y, hy⟩ : ∃ y, y = (l.getD k eL).2 := ⟨_, rfl⟩
        rw [← hx] at hc hz htk
        rw [← hy] at hd hz htk
        have hx8 : (x.size : Int) ≤ 8 := by omega
        have hy8 : (y.size : Int) ≤ 8 := by omega
        obtain ⟨ns, hns⟩ : ∃ ns, ns = (l.take k).map (fun p => Value.string (p.1 ++ ⟨#[61]⟩ ++ p.2)) := ⟨_, rfl⟩
        unfold lw at hown
        rw [← hns] at htk hown
        have HTK := hide htk
        have HROW := hide hown
        have hsz := hbel.size
        have B0 := hide hbel
        clear hc0 hd0 hx hy hns hown hbel htk hz
        go_wp2_with (first
          | (at_builtin; refine wpList_append_own _ rfl _ _ 29 rfl w.heap.size 9 i1 (.string ByteArray.empty) 1 16 Try.underlying29 hi1 hy0 hy1 hy2 rfl (by decide) _ _ _ rfl ((HROW.out.alloc _).alloc _) ⟨wr.heap.size + 1, 0, none⟩ 1 1 [.string (x ++ ⟨#[61]⟩ ++ y)] rfl rfl (cell_one_new2 _ _ _ _) (by intro u hu; simp at hu; subst hu; rfl) (by unfold maxLen; omega) (by omega) (by simp; omega) ?_)
          | go_in)
        intro v6 w6 hown6 hgrow6 _
        have hb6 := B0.out.trans (((Below.refl _ _).alloc hsz _).alloc (by simp; omega) _ |>.grown hgrow6 (by simp; omega) (fun g hg => (HROW.out.lt g hg).1))
        have hown8 : w6.ownsRow w.heap.size 9 1 v6 (k + 1) ((l.take (k + 1)).map fun p => Value.string (lw p)) := by
          unfold lw; rw [HTK.out]; exact hown6
        have hown7 := hide hown8
        clear hown6 hgrow6 hown8
        go_wp2
        go_roundw
        case rel => exact ⟨k + 1, by omega, by go_num, hown7.out, hb6⟩
        case measure => simp [intOf]; omega
      · obtain rfl : k = n := by omega
        have hltI : ¬ (k : Int) < (k : Int) := by omega
        have e1 : l.take k = l := List.take_of_length_le (by rw [HN.out]; exact Nat.le_refl _)
        rw [e1] at hown
        clear e1
        by_cases hk0 : k = 0
        · subst hk0
          obtain ⟨oa, ocap, rfl⟩ := own_shape hown
          have hl0 : l = [] := List.eq_nil_of_length_eq_zero HN.out
          have CJ := hide (fun w => join_none oa ocap ⟨#[44]⟩ w)
          clear hown
          go_wp2_with fail
          refine (CJ.out _).mono ?_
          rintro e w3 ⟨rfl, hw3⟩
          subst hw3
          go_wp2
          go_ret2
          exact ⟨by rw [HR.out, hl0]; rfl, hbel⟩
        · obtain ⟨g, c, rfl, hkc, hgl, hcells⟩ := row_some hown hk0
          have hxl : (l.map lw).length = k := by simpa using HN.out
          have CJ := fun w hc hb => join_some g 0 c (l.map lw) ⟨#[44]⟩ w hc hb (by omega) (by omega) (by have := HJS.out; rw [List.map_map]; show (Lib.join (l.map fun p => (lw p).data.toList) [44]).length ≤ _; omega)
          rw [hxl, List.map_map] at CJ
          change ∀ w hc hb, Calls _ _ _ w fun e w' => e = .returned (.string ⟨(Lib.join (l.map fun p => (lw p).data.toList) [44]).toArray⟩) ∧ _ at CJ
          have hcl : ∀ (j : Nat) x, (l.map lw)[j]? = some x → wr.cell? ⟨g, 0 + j, none⟩ = some (.string x) := fun j x hx => hcells j _ (by
            rw [List.getElem?_map] at hx ⊢
            cases hj : l[j]? with
            | none => rw [hj] at hx; simp at hx
            | some p => rw [hj] at hx; simp at hx ⊢; rw [hx])
          obtain ⟨J, hJ⟩ : ∃ J, J = Lib.join (l.map fun p => (lw p).data.toList) [44] := ⟨_, rfl⟩
          rw [← hJ] at HR HJS CJ
          have CJ2 := hide (CJ wr hcl hgl)
          have hJ8 : ((⟨J.toArray⟩ : ByteArray).size : Int) ≤ 200 := by have := HJS.out; show ((J.toArray.size : Nat) : Int) ≤ 200; simp; omega
          obtain ⟨JB, hJB⟩ : ∃ JB, JB = (⟨J.toArray⟩ : ByteArray) := ⟨_, rfl⟩
          rw [← hJB] at HR CJ2 hJ8
          have B0 := hide hbel
          clear CJ hcl hcells hown hxl hJ hbel hJB HJS
          go_wp2_with fail
          refine CJ2.out.mono ?_
          rintro e w3 ⟨rfl, hb3⟩
          have B3 := hide (B0.out.trans (hb3.mono B0.out.size))
          clear hb3
          go_wp2
          go_ret2
          exact ⟨by rw [HR.out]; rfl, B3.out⟩
  · have C1 := hide (goodLabels_any a l n cap w hn hs hn2 hst false (by simp [hg]))
    have hr' : r = none := by rw [hr]; unfold txRes; rw [if_neg hg]
    have HR := hide hr'
    clear hr hr' hg hs hn hst
    go_enter Try.func66, Try.ntmps66
    go_wp2_with fail
    refine C1.out.mono ?_
    rintro e w1 ⟨rfl, hb1⟩
    go_wp2
    go_ret2
    exact ⟨by rw [HR.out]; rfl, hb1⟩
end Go.Proofs.Ytohcjafklfemfam.L3

namespace Go.Proofs.Ytohcjafklfemfam.L14T
open Go.RowKit L1 L3
set_option linter.unusedVariables false

set_option maxRecDepth 100000 in
set_option maxHeartbeats 400000 in
theorem isItemValue_any (x : Int) (w : World) (b : Bool) (hb : b = true ↔ -1000000 ≤ x ∧ x ≤ 1000000) :
    Calls Try.prog 65 #[.int .i64 x] w fun e w' => e = .returned (.bool b) ∧ w = w' := by
  by_cases h1 : -1000000 ≤ x
  · by_cases h2 : x ≤ 1000000
    · obtain rfl : b = true := hb.2 ⟨h1, h2⟩
      clear hb
      go_enter Try.func65, Try.ntmps65
      go_wp2
      go_ret
      exact ⟨rfl, rfl⟩
    · obtain rfl : b = false := bool_no14 hb (fun h => h2 h.2)
      clear hb
      go_enter Try.func65, Try.ntmps65
      go_wp2
      go_ret
      exact ⟨rfl, rfl⟩
  · obtain rfl : b = false := bool_no14 hb (fun h => h1 h.1)
    clear hb
    go_enter Try.func65, Try.ntmps65
    go_wp2
    go_ret
    exact ⟨rfl, rfl⟩
open Classical in
set_option maxRecDepth 100000 in
set_option maxHeartbeats 2000000 in
theorem goodTotal_any (a : Option Addr) (l : List Lb) (n c : Nat) (v0 v1 v2 v3 : Int) (w : World) (hn : l.length = n) (hn2 : n ≤ 1048576) (hs : SlL w a l) (hst : TxB l) (bb : Bool) (hbb : bb = true ↔ GoodL l ∧ okN v0 v1 v2 v3) :
    Calls Try.prog 38 #[.agg #[.slice a n c, .int .i64 v0, .int .i64 v1, .int .i64 v2, .int .i64 v3]] w fun e w' => e = .returned (.bool bb) ∧ Below w.heap.size w w' := by
  by_cases hg : GoodL l
  · have CG := hide (fun w hs => goodLabels_any a l n c w hn hs hn2 hst true (by simp [hg]))
    have HS := hide hs
    by_cases hq : ¬ (1 ≤ v1)
    · obtain rfl := bool_no14 hbb (fun h => hq h.2.1.1)
      have HX := trivial
      clear hbb hs hst hn hg HX
      go_enter Try.func38, Try.ntmps38
      go_wp2_with fail
      refine (CG.out _ (HS.out.below ((Below.refl _ _).alloc (Nat.le_refl _) _))).mono ?_
      rintro e w1 ⟨rfl, hb⟩
      obtain ⟨c0, c1, c2, c3, c4, _, _, _, _, _⟩ := blkp ((hb.block w.heap.size (by simp)).trans (L8.blk_new _ _))
      have B1 := hide (((Below.refl w.heap.size w).alloc (Nat.le_refl _) (.cells #[.slice a n c, .int .i64 v0, .int .i64 v1, .int .i64 v2, .int .i64 v3] 60 (0, 0))).trans (hb.mono (by simp)))
      clear hb
      go_wp2
      go_ret
      exact ⟨rfl, B1.out⟩
    have hq0 : 1 ≤ v1 := Classical.not_not.1 hq
    clear hq
    by_cases hq : ¬ (v1 ≤ 1000)
    · obtain rfl := bool_no14 hbb (fun h => hq h.2.1.2)
      have HX := trivial
      clear hbb hs hst hn hg HX
      go_enter Try.func38, Try.ntmps38
      go_wp2_with fail
      refine (CG.out _ (HS.out.below ((Below.refl _ _).alloc (Nat.le_refl _) _))).mono ?_
      rintro e w1 ⟨rfl, hb⟩
      obtain ⟨c0, c1, c2, c3, c4, _, _, _, _, _⟩ := blkp ((hb.block w.heap.size (by simp)).trans (L8.blk_new _ _))
      have B1 := hide (((Below.refl w.heap.size w).alloc (Nat.le_refl _) (.cells #[.slice a n c, .int .i64 v0, .int .i64 v1, .int .i64 v2, .int .i64 v3] 60 (0, 0))).trans (hb.mono (by simp)))
      clear hb
      go_wp2
      go_ret
      exact ⟨rfl, B1.out⟩
    have hq1 : v1 ≤ 1000 := Classical.not_not.1 hq
    clear hq
    by_cases hq : ¬ (-1000000000 ≤ v0)
    · obtain rfl := bool_no14 hbb (fun h => hq h.2.2.1.1)
      have HX := trivial
      clear hbb hs hst hn hg HX
      go_enter Try.func38, Try.ntmps38
      go_wp2_with fail
      refine (CG.out _ (HS.out.below ((Below.refl _ _).alloc (Nat.le_refl _) _))).mono ?_
      rintro e w1 ⟨rfl, hb⟩
      obtain ⟨c0, c1, c2, c3, c4, _, _, _, _, _⟩ := blkp ((hb.block w.heap.size (by simp)).trans (L8.blk_new _ _))
      have B1 := hide (((Below.refl w.heap.size w).alloc (Nat.le_refl _) (.cells #[.slice a n c, .int .i64 v0, .int .i64 v1, .int .i64 v2, .int .i64 v3] 60 (0, 0))).trans (hb.mono (by simp)))
      clear hb
      go_wp2
      go_ret
      exact ⟨rfl, B1.out⟩
    have hq2 : -1000000000 ≤ v0 := Classical.not_not.1 hq
    clear hq
    by_cases hq : ¬ (v0 ≤ 1000000000)
    · obtain rfl := bool_no14 hbb (fun h => hq h.2.2.1.2)
      have HX := trivial
      clear hbb hs hst hn hg HX
      go_enter Try.func38, Try.ntmps38
      go_wp2_with fail
      refine (CG.out _ (HS.out.below ((Below.refl _ _).alloc (Nat.le_refl _) _))).mono ?_
      rintro e w1 ⟨rfl, hb⟩
      obtain ⟨c0, c1, c2, c3, c4, _, _, _, _, _⟩ := blkp ((hb.block w.heap.size (by simp)).trans (L8.blk_new _ _))
      have B1 := hide (((Below.refl w.heap.size w).alloc (Nat.le_refl _) (.cells #[.slice a n c, .int .i64 v0, .int .i64 v1, .int .i64 v2, .int .i64 v3] 60 (0, 0))).trans (hb.mono (by simp)))
      clear hb
      go_wp2
      go_ret
      exact ⟨rfl, B1.out⟩
    have hq3 : v0 ≤ 1000000000 := Classical.not_not.1 hq
    clear hq
    by_cases hv2 : ¬ (-1000000 ≤ v2 ∧ v2 ≤ 1000000)
    · obtain rfl := bool_no14 hbb (fun h => hv2 h.2.2.2.1)
      have CV := hide (fun w => isItemValue_any v2 w false ⟨fun h => absurd h (by simp), fun h => absurd h hv2⟩)
      have HX := trivial
      clear hv2
      clear hbb hs hst hn hg HX
      go_enter Try.func38, Try.ntmps38
      go_wp2_with fail
      refine (CG.out _ (HS.out.below ((Below.refl _ _).alloc (Nat.le_refl _) _))).mono ?_
      rintro e w1 ⟨rfl, hb⟩
      obtain ⟨c0, c1, c2, c3, c4, _, _, _, _, _⟩ := blkp ((hb.block w.heap.size (by simp)).trans (L8.blk_new _ _))
      have B1 := hide (((Below.refl w.heap.size w).alloc (Nat.le_refl _) (.cells #[.slice a n c, .int .i64 v0, .int .i64 v1, .int .i64 v2, .int .i64 v3] 60 (0, 0))).trans (hb.mono (by simp)))
      clear hb
      go_wp2_with fail
      refine (CV.out _).mono ?_
      rintro e w2 ⟨rfl, rfl⟩
      go_wp2
      go_ret
      exact ⟨rfl, B1.out⟩
    have hv2' : -1000000 ≤ v2 ∧ v2 ≤ 1000000 := Classical.not_not.1 hv2
    have CV := hide (fun w => isItemValue_any v2 w true ⟨fun _ => hv2', fun _ => rfl⟩)
    by_cases hv3 : ¬ (-1000000 ≤ v3 ∧ v3 ≤ 1000000)
    · obtain rfl := bool_no14 hbb (fun h => hv3 h.2.2.2.2.1)
      have CW := hide (fun w => isItemValue_any v3 w false ⟨fun h => absurd h (by simp), fun h => absurd h hv3⟩)
      have HX := trivial
      clear hv2 hv3 hv2'
      clear hbb hs hst hn hg HX
      go_enter Try.func38, Try.ntmps38
      go_wp2_with fail
      refine (CG.out _ (HS.out.below ((Below.refl _ _).alloc (Nat.le_refl _) _))).mono ?_
      rintro e w1 ⟨rfl, hb⟩
      obtain ⟨c0, c1, c2, c3, c4, _, _, _, _, _⟩ := blkp ((hb.block w.heap.size (by simp)).trans (L8.blk_new _ _))
      have B1 := hide (((Below.refl w.heap.size w).alloc (Nat.le_refl _) (.cells #[.slice a n c, .int .i64 v0, .int .i64 v1, .int .i64 v2, .int .i64 v3] 60 (0, 0))).trans (hb.mono (by simp)))
      clear hb
      go_wp2_with fail
      refine (CV.out _).mono ?_
      rintro e w2 ⟨rfl, rfl⟩
      go_wp2_with fail
      refine (CW.out _).mono ?_
      rintro e w2 ⟨rfl, rfl⟩
      go_wp2
      go_ret
      exact ⟨rfl, B1.out⟩
    have hv3' : -1000000 ≤ v3 ∧ v3 ≤ 1000000 := Classical.not_not.1 hv3
    have CW := hide (fun w => isItemValue_any v3 w true ⟨fun _ => hv3', fun _ => rfl⟩)
    by_cases hle : v2 ≤ v3
    · obtain rfl : bb = true := hbb.2 ⟨hg, ⟨hq0, hq1⟩, ⟨hq2, hq3⟩, hv2', hv3', hle⟩
      have HX := trivial
      clear hv2 hv3 hv2' hv3'
      clear hbb hs hst hn hg HX
      go_enter Try.func38, Try.ntmps38
      go_wp2_with fail
      refine (CG.out _ (HS.out.below ((Below.refl _ _).alloc (Nat.le_refl _) _))).mono ?_
      rintro e w1 ⟨rfl, hb⟩
      obtain ⟨c0, c1, c2, c3, c4, _, _, _, _, _⟩ := blkp ((hb.block w.heap.size (by simp)).trans (L8.blk_new _ _))
      have B1 := hide (((Below.refl w.heap.size w).alloc (Nat.le_refl _) (.cells #[.slice a n c, .int .i64 v0, .int .i64 v1, .int .i64 v2, .int .i64 v3] 60 (0, 0))).trans (hb.mono (by simp)))
      clear hb
      go_wp2_with fail
      refine (CV.out _).mono ?_
      rintro e w2 ⟨rfl, rfl⟩
      go_wp2_with fail
      refine (CW.out _).mono ?_
      rintro e w2 ⟨rfl, rfl⟩
      go_wp2
      go_ret
      exact ⟨rfl, B1.out⟩
    · obtain rfl := bool_no14 hbb (fun h => hle h.2.2.2.2.2)
      have hlf : decide (v2 ≤ v3) = false := by simpa using hle
      have HX := trivial
      clear hv2 hv3 hv2' hv3'
      clear hbb hs hst hn hg HX
      go_enter Try.func38, Try.ntmps38
      go_wp2_with fail
      refine (CG.out _ (HS.out.below ((Below.refl _ _).alloc (Nat.le_refl _) _))).mono ?_
      rintro e w1 ⟨rfl, hb⟩
      obtain ⟨c0, c1, c2, c3, c4, _, _, _, _, _⟩ := blkp ((hb.block w.heap.size (by simp)).trans (L8.blk_new _ _))
      have B1 := hide (((Below.refl w.heap.size w).alloc (Nat.le_refl _) (.cells #[.slice a n c, .int .i64 v0, .int .i64 v1, .int .i64 v2, .int .i64 v3] 60 (0, 0))).trans (hb.mono (by simp)))
      clear hb
      go_wp2_with fail
      refine (CV.out _).mono ?_
      rintro e w2 ⟨rfl, rfl⟩
      go_wp2_with fail
      refine (CW.out _).mono ?_
      rintro e w2 ⟨rfl, rfl⟩
      go_wp2
      go_ret
      exact ⟨rfl, B1.out⟩
  · have CG := hide (fun w hs => goodLabels_any a l n c w hn hs hn2 hst false (by simp [hg]))
    have HS := hide hs
    obtain rfl := bool_no14 hbb (fun h => hg h.1)
    have HX := trivial
    clear hbb hs hst hn hg HX
    go_enter Try.func38, Try.ntmps38
    go_wp2_with fail
    refine (CG.out _ (HS.out.below ((Below.refl _ _).alloc (Nat.le_refl _) _))).mono ?_
    rintro e w1 ⟨rfl, hb⟩
    obtain ⟨c0, c1, c2, c3, c4, _, _, _, _, _⟩ := blkp ((hb.block w.heap.size (by simp)).trans (L8.blk_new _ _))
    have B1 := hide (((Below.refl w.heap.size w).alloc (Nat.le_refl _) (.cells #[.slice a n c, .int .i64 v0, .int .i64 v1, .int .i64 v2, .int .i64 v3] 60 (0, 0))).trans (hb.mono (by simp)))
    clear hb
    go_wp2
    go_ret
    exact ⟨rfl, B1.out⟩
set_option maxRecDepth 100000 in
set_option maxHeartbeats 1000000 in
theorem labelsOfTotal_any (a : Option Addr) (l : List Lb) (n c : Nat) (v0 v1 v2 v3 : Int) (w : World) (hn : l.length = n) (hg : GoodL l) (hs : SlL w a l) :
    Calls Try.prog 39 #[.agg #[.slice a n c, .int .i64 v0, .int .i64 v1, .int .i64 v2, .int .i64 v3]] w fun e w' => e = .returned (.string (ltext l)) ∧ Below w.heap.size w w' := by
  have h6 := hg.1
  have hst := good_sizes hg
  have hr : some (ltext l) = txRes l := by unfold txRes; rw [if_pos hg]
  have CG := hide (fun w hs => labelsText_any a l n c w hn hs (by omega) (fun j hj => by have := hst j hj; omega) (some (ltext l)) hr)
  have HS := hide hs
  obtain ⟨tx, htx⟩ : ∃ tx, tx = ltext l := ⟨_, rfl⟩
  rw [← htx] at CG ⊢
  clear hs hn hg h6 hst hr htx
  go_enter Try.func39, Try.ntmps39
  go_wp2_with fail
  refine (CG.out _ (HS.out.below ((Below.refl _ _).alloc (Nat.le_refl _) _))).mono ?_
  rintro e w1 ⟨rfl, hb⟩
  have B1 := hide (((Below.refl w.heap.size w).alloc (Nat.le_refl _) (.cells #[.slice a n c, .int .i64 v0, .int .i64 v1, .int .i64 v2, .int .i64 v3] 60 (0, 0))).trans (hb.mono (by simp)))
  clear hb
  go_wp2
  go_ret
  exact ⟨rfl, B1.out⟩
open Classical in
set_option maxRecDepth 100000 in
set_option maxHeartbeats 4000000 in
theorem implGoodTotals_any (a : Option Addr) (L : List Rw) (n cap : Nat) (w : World) (hn : L.length = n) (hm : n ≤ 1048576) (hs : SlR w a L) (hst : TxR L) (hlx : ∀ j, j < L.length → (gr L j).l.length ≤ 1048576) (bb : Bool) (hbb : bb = true ↔ GoodT L) :
    Calls Try.prog 11 #[.slice a n cap] w fun e w' => e = .returned (.bool bb) ∧ Below w.heap.size w w' := by
  by_cases h8 : (40 : Int) < (n : Int)
  · obtain rfl := bool_no14 hbb (fun h => by have := h.1; omega)
    clear hbb hn hs hst hlx
    go_enter Try.func11, Try.ntmps11
    go_wp2
    go_ret
    exact ⟨rfl, Below.refl _ _⟩
  have HBB := hide hbb
  have HS := hide hs
  have HN := hide hn
  have HST := hide hst
  have HLX := hide hlx
  clear hbb hs hn hst hlx
  go_enter Try.func11, Try.ntmps11
  go_wp2
  go_loopw [10] (fun i wr => ∃ k : Nat, k ≤ n ∧ i = .int .i64 k ∧ Hid (UpTo L k) ∧ Below w.heap.size w wr) (fun i _ => n - (intOf i).toNat)
  case atStart => exact ⟨0, Nat.zero_le _, rfl, fun j hj => absurd hj (Nat.not_lt_zero _), Below.refl _ _⟩
  case round =>
    obtain ⟨k, hk, rfl, HJ, hbel⟩ := hrel
    by_cases hlt : k < n
    · have hkx : k < L.length := by rw [HN.out]; exact hlt
      obtain ⟨b, off, rfl, ai, ci, hat⟩ := HS.out.below hbel k hkx
      have hsx := HST.out k hkx
      have hlx := HLX.out k hkx
      obtain ⟨x0, x1, x2, x3, x4, t1⟩ := hat
      obtain ⟨p, hp⟩ : ∃ p, p = gr L k := ⟨_, rfl⟩
      rw [← hp] at x0 x1 x2 x3 x4 t1 hsx hlx
      obtain ⟨x, v0, v1, v2, v3⟩ := p
      simp only at x0 x1 x2 x3 x4 t1 hsx hlx
      obtain ⟨m, hm⟩ : ∃ m, m = x.length := ⟨_, rfl⟩
      rw [← hm] at x0 hsx hlx
      have hltI : (k : Int) < (n : Int) := by omega
      have hprev : 0 < k → ∃ aj cj, AtR wr b (off + (k - 1) * 5) (gr L (k - 1)) aj cj := fun h0 => by
        obtain ⟨b', off', ha, ai', ci', hp'⟩ := HS.out.below hbel (k - 1) (by omega)
        simp only [Option.some.injEq, Addr.mk.injEq, and_true] at ha
        obtain ⟨rfl, rfl⟩ := ha
        exact ⟨_, _, hp'⟩
      have HPREV := hide hprev
      have HP := hide hp
      have HM := hide hm
      have HL := hide t1
      have HBEL := hide hbel
      clear hprev hp hm t1 hbel hkx
      go_wp2
      obtain ⟨W0, hW0⟩ : ∃ W0, wr.alloc (.cells #[.slice ai m ci, .int .i64 v0, .int .i64 v1, .int .i64 v2, .int .i64 v3] 60 (0, 0)) = W0 := ⟨_, rfl⟩
      have hb0 : Below wr.heap.size wr W0 := by rw [← hW0]; exact (Below.refl _ _).alloc (Nat.le_refl _) _
      obtain ⟨c0, c1, c2, c3, c4, _, _, _, _, _⟩ := blkp (show W0.heap[wr.heap.size]? = some (.cells #[.slice ai m ci, .int .i64 v0, .int .i64 v1, .int .i64 v2, .int .i64 v3] 60 (0, 0)) by rw [← hW0]; exact L8.blk_new _ _)
      rw [hW0]
      clear hW0 x0 x1 x2 x3 x4
      have HB0 := hide hb0
      clear hb0
      by_cases hok : GoodL x ∧ okN v0 v1 v2 v3
      · have HOK : Hid (okT ⟨x, v0, v1, v2, v3⟩) := hok
        have CG := hide (fun w hs => goodTotal_any ai x m ci v0 v1 v2 v3 w HM.out.symm (by omega) hs hsx.2 true (by simp [hok]))
        have CX := hide (fun w hs => labelsOfTotal_any ai x m ci v0 v1 v2 v3 w HM.out.symm hok.1 hs)
        clear hok
        cases k with
        | zero =>
          clear HPREV CX
          refine wp_region_held_drew (S := fun wx => (wx.cell? ⟨wr.heap.size, 0, none⟩ = some (.slice ai m ci) ∧ wx.cell? ⟨wr.heap.size, 1, none⟩ = some (.int .i64 v0) ∧ wx.cell? ⟨wr.heap.size, 2, none⟩ = some (.int .i64 v1) ∧ wx.cell? ⟨wr.heap.size, 3, none⟩ = some (.int .i64 v2) ∧ wx.cell? ⟨wr.heap.size, 4, none⟩ = some (.int .i64 v3)) ∧ Below W0.heap.size W0 wx) (by kernel_rfl) ⟨⟨c0, c1, c2, c3, c4⟩, (Below.refl _ _).drew⟩ (fun hHeld => ?_)
          refine wpAnyH_take (i := 0) (v := ?v1) rfl (by kernel_rfl) (by kernel_rfl) (by kernel_rfl) (fun _ _ _ h => h) (Or.inl ⟨by rfl, ?y1⟩) (by assumption) ?r1
          case y1 => (intro w hSw; (try dsimp only at hSw); go_simp; try (with_reducible rfl))
          simp only [List.getElem_toArray, List.getElem_cons_zero, Act.put, List.setIfInBounds_toArray, List.set_cons_zero, List.set_cons_succ]
          refine wpAnyH_ready (rs := [1]) (by kernel_rfl) (by simp) ?_
          refine AllReadyH.cons rfl (fun K hK => ?_) AllReadyH.nil
          simp only [List.getElem_toArray, List.getElem_cons_succ, List.getElem_cons_zero]
          go_simp
          go_at_call 38
          refine (CG.out _ (HL.out.below (HB0.out.trans (hHeld.2.mono HB0.out.size)))).mono ?_
          rintro e w3 ⟨rfl, hb⟩
          dsimp only
          refine hK.out _ _ ?_ (fun hHeld => ?_)
          · exact L8.keep5 (by assumption) hb (Nat.le_refl _)
          clear hK K
          try simp only [Act.put, List.setIfInBounds_toArray, List.set_cons_zero, List.set_cons_succ]
          refine wpAnyH_take (i := 2) (v := ?v2) rfl (by kernel_rfl) (by kernel_rfl) (by kernel_rfl) (fun _ _ _ h => h) (Or.inl ⟨by rfl, ?y2⟩) (by assumption) ?r2
          case y2 => (intro w hSw; (try dsimp only at hSw); go_simp; try (with_reducible rfl))
          simp only [List.getElem_toArray, List.getElem_cons_succ, List.getElem_cons_zero, Act.put, List.setIfInBounds_toArray, List.set_cons_zero, List.set_cons_succ]
          refine wpAnyH_take (i := 3) (v := ?v3) rfl (by kernel_rfl) (by kernel_rfl) (by kernel_rfl) (fun _ _ _ h => h) (Or.inl ⟨by rfl, ?y3⟩) (by assumption) ?r3
          case y3 => (intro w hSw; (try dsimp only at hSw); go_simp; try (with_reducible rfl))
          simp only [List.getElem_toArray, List.getElem_cons_succ, List.getElem_cons_zero, Act.put, List.setIfInBounds_toArray, List.set_cons_zero, List.set_cons_succ]
          refine wpAnyH_take (i := 4) (v := ?v4) rfl (by kernel_rfl) (by kernel_rfl) (by kernel_rfl) (fun _ _ _ h => h) (Or.inl ⟨by rfl, ?y4⟩) (by assumption) ?r4
          case y4 => (intro w hSw; (try dsimp only at hSw); go_simp; try (with_reducible rfl))
          simp only [List.getElem_toArray, List.getElem_cons_succ, List.getElem_cons_zero, Act.put, List.setIfInBounds_toArray, List.set_cons_zero, List.set_cons_succ]
          refine wpAnyH_take (i := 5) (v := ?v5) rfl (by kernel_rfl) (by kernel_rfl) (by kernel_rfl) (fun _ _ _ h => h) (Or.inl ⟨by rfl, ?y5⟩) (by assumption) ?r5
          case y5 => (intro w hSw; (try dsimp only at hSw); go_simp; try (with_reducible rfl))
          simp only [List.getElem_toArray, List.getElem_cons_succ, List.getElem_cons_zero, Act.put, List.setIfInBounds_toArray, List.set_cons_zero, List.set_cons_succ]
          refine wpAnyH_take (i := 6) (v := ?v6) rfl (by kernel_rfl) (by kernel_rfl) (by kernel_rfl) (fun _ _ _ h => h) (Or.inl ⟨by rfl, ?y6⟩) (by assumption) ?r6
          case y6 => (intro w hSw; (try dsimp only at hSw); go_simp; try (with_reducible rfl))
          simp only [List.getElem_toArray, List.getElem_cons_succ, List.getElem_cons_zero, Act.put, List.setIfInBounds_toArray, List.set_cons_zero, List.set_cons_succ]
          refine wpAnyH_take (i := 7) (v := undef) rfl (by kernel_rfl) (by kernel_rfl) (by kernel_rfl) (fun _ _ _ h => h) (Or.inr ⟨by rfl, rfl⟩) (by assumption) ?_
          simp only [List.getElem_toArray, List.getElem_cons_succ, List.getElem_cons_zero, Act.put, List.setIfInBounds_toArray, List.set_cons_zero, List.set_cons_succ]
          refine wpAnyH_take (i := 8) (v := undef) rfl (by kernel_rfl) (by kernel_rfl) (by kernel_rfl) (fun _ _ _ h => h) (Or.inr ⟨by rfl, rfl⟩) (by assumption) ?_
          simp only [List.getElem_toArray, List.getElem_cons_succ, List.getElem_cons_zero, Act.put, List.setIfInBounds_toArray, List.set_cons_zero, List.set_cons_succ]
          refine wpAnyH_take (i := 9) (v := undef) rfl (by kernel_rfl) (by kernel_rfl) (by kernel_rfl) (fun _ _ _ h => h) (Or.inr ⟨by rfl, rfl⟩) (by assumption) ?_
          simp only [List.getElem_toArray, List.getElem_cons_succ, List.getElem_cons_zero, Act.put, List.setIfInBounds_toArray, List.set_cons_zero, List.set_cons_succ]
          refine wpAnyH_take (i := 10) (v := undef) rfl (by kernel_rfl) (by kernel_rfl) (by kernel_rfl) (fun _ _ _ h => h) (Or.inr ⟨by rfl, rfl⟩) (by assumption) ?_
          simp only [List.getElem_toArray, List.getElem_cons_succ, List.getElem_cons_zero, Act.put, List.setIfInBounds_toArray, List.set_cons_zero, List.set_cons_succ]
          refine wpAnyH_take (i := 11) (v := undef) rfl (by kernel_rfl) (by kernel_rfl) (by kernel_rfl) (fun _ _ _ h => h) (Or.inr ⟨by rfl, rfl⟩) (by assumption) ?_
          simp only [List.getElem_toArray, List.getElem_cons_succ, List.getElem_cons_zero, Act.put, List.setIfInBounds_toArray, List.set_cons_zero, List.set_cons_succ]
          refine wpAnyH_take (i := 12) (v := undef) rfl (by kernel_rfl) (by kernel_rfl) (by kernel_rfl) (fun _ _ _ h => h) (Or.inr ⟨by rfl, rfl⟩) (by assumption) ?_
          simp only [List.getElem_toArray, List.getElem_cons_succ, List.getElem_cons_zero, Act.put, List.setIfInBounds_toArray, List.set_cons_zero, List.set_cons_succ]
          refine wpAnyH_take (i := 13) (v := undef) rfl (by kernel_rfl) (by kernel_rfl) (by kernel_rfl) (fun _ _ _ h => h) (Or.inr ⟨by rfl, rfl⟩) (by assumption) ?_
          simp only [List.getElem_toArray, List.getElem_cons_succ, List.getElem_cons_zero, Act.put, List.setIfInBounds_toArray, List.set_cons_zero, List.set_cons_succ]
          refine wpAnyH_take (i := 14) (v := undef) rfl (by kernel_rfl) (by kernel_rfl) (by kernel_rfl) (fun _ _ _ h => h) (Or.inr ⟨by rfl, rfl⟩) (by assumption) ?_
          simp only [List.getElem_toArray, List.getElem_cons_succ, List.getElem_cons_zero, Act.put, List.setIfInBounds_toArray, List.set_cons_zero, List.set_cons_succ]
          refine wpAnyH_take (i := 15) (v := undef) rfl (by kernel_rfl) (by kernel_rfl) (by kernel_rfl) (fun _ _ _ h => h) (Or.inr ⟨by rfl, rfl⟩) (by assumption) ?_
          simp only [List.getElem_toArray, List.getElem_cons_succ, List.getElem_cons_zero, Act.put, List.setIfInBounds_toArray, List.set_cons_zero, List.set_cons_succ]
          refine wpAnyH_take (i := 16) (v := ?v16) rfl (by kernel_rfl) (by kernel_rfl) (by kernel_rfl) (fun _ _ _ h => h) (Or.inl ⟨by rfl, ?y16⟩) (by assumption) ?r16
          case y16 => (intro w hSw; (try dsimp only at hSw); go_simp; try (with_reducible rfl))
          simp only [List.getElem_toArray, List.getElem_cons_succ, List.getElem_cons_zero, Act.put, List.setIfInBounds_toArray, List.set_cons_zero, List.set_cons_succ]
          refine wpAnyH_take (i := 17) (v := ?v17) rfl (by kernel_rfl) (by kernel_rfl) (by kernel_rfl) (fun _ _ _ h => h) (Or.inl ⟨by rfl, ?y17⟩) (by assumption) ?r17
          case y17 => (intro w hSw; (try dsimp only at hSw); go_simp; try (with_reducible rfl))
          simp only [List.getElem_toArray, List.getElem_cons_succ, List.getElem_cons_zero, Act.put, List.setIfInBounds_toArray, List.set_cons_zero, List.set_cons_succ]
          refine wpAnyH_done (by kernel_rfl) ?_ _
          have B1 := hide ((HBEL.out.trans (HB0.out.mono HBEL.out.size)).trans (hHeld.2.mono (Nat.le_trans HBEL.out.size HB0.out.size)))
          clear hHeld
          go_wp2
          go_roundw
          case rel => exact ⟨0 + 1, by omega, by go_num, HJ.out.next (by rw [← HP.out]; exact HOK.out) (fun h => absurd h (Nat.lt_irrefl _)), B1.out⟩
          case measure => simp [intOf]; omega
        | succ q =>
          obtain ⟨aj, cj, hpc⟩ := HPREV.out (by omega)
          have e1 : q + 1 - 1 = q := by omega
          rw [e1] at hpc
          have hgp : GoodL (gr L q).l := (HJ.out q (by omega)).1.1
          obtain ⟨y0, y1, y2, y3, y4, ty⟩ := hpc.below HB0.out
          obtain ⟨p', hp'⟩ : ∃ p', p' = gr L q := ⟨_, rfl⟩
          rw [← hp'] at y0 y1 y2 y3 y4 ty hgp
          obtain ⟨y, u0, u1, u2, u3⟩ := p'
          simp only at y0 y1 y2 y3 y4 ty hgp
          obtain ⟨mj, hmj⟩ : ∃ mj, mj = y.length := ⟨_, rfl⟩
          rw [← hmj] at y0
          have HY := hide ty
          have HP' := hide hp'
          have CP := hide (fun w hs => labelsOfTotal_any aj y mj cj u0 u1 u2 u3 w hmj.symm hgp hs)
          have hjI : (q : Int) < (n : Int) := by omega
          have hj0 : (0 : Int) ≤ (q : Int) := by omega
          have hwj : IntKind.i64.wrap (q : Int) = (q : Int) := by
            simp only [IntKind.wrap, IntKind.bits, IntKind.signed]
            simp
            omega
          have hjp : (0 : Int) < (q : Int) + 1 := by omega
          obtain ⟨tp, htp⟩ : ∃ tp, tp = ltext y := ⟨_, rfl⟩
          obtain ⟨tx, htx⟩ : ∃ tx, tx = ltext x := ⟨_, rfl⟩
          rw [← htp] at CP
          rw [← htx] at CX
          have HTP := hide htp
          have HTX := hide htx
          clear HPREV e1 hpc hgp ty hp' hmj htp htx hsx
          by_cases hah : ¬ Ahead tp tx
          · have hle := not_ahead hah
            have HAH := hide hah
            clear hah
            refine wp_region_held_drew (S := fun wx => (wx.cell? ⟨wr.heap.size, 0, none⟩ = some (.slice ai m ci) ∧ wx.cell? ⟨wr.heap.size, 1, none⟩ = some (.int .i64 v0) ∧ wx.cell? ⟨wr.heap.size, 2, none⟩ = some (.int .i64 v1) ∧ wx.cell? ⟨wr.heap.size, 3, none⟩ = some (.int .i64 v2) ∧ wx.cell? ⟨wr.heap.size, 4, none⟩ = some (.int .i64 v3) ∧ wx.cell? ⟨b, off + q * 5, none⟩ = some (.slice aj mj cj) ∧ wx.cell? ⟨b, off + q * 5 + 1, none⟩ = some (.int .i64 u0) ∧ wx.cell? ⟨b, off + q * 5 + 2, none⟩ = some (.int .i64 u1) ∧ wx.cell? ⟨b, off + q * 5 + 3, none⟩ = some (.int .i64 u2) ∧ wx.cell? ⟨b, off + q * 5 + 4, none⟩ = some (.int .i64 u3)) ∧ Below W0.heap.size W0 wx) (by kernel_rfl) ⟨⟨c0, c1, c2, c3, c4, y0, y1, y2, y3, y4⟩, (Below.refl _ _).drew⟩ (fun hHeld => ?_)
            refine wpAnyH_take (i := 0) (v := ?v18) rfl (by kernel_rfl) (by kernel_rfl) (by kernel_rfl) (fun _ _ _ h => h) (Or.inl ⟨by rfl, ?y18⟩) (by assumption) ?r18
            case y18 => (intro w hSw; (try dsimp only at hSw); go_simp; try (with_reducible rfl))
            simp only [List.getElem_toArray, List.getElem_cons_zero, Act.put, List.setIfInBounds_toArray, List.set_cons_zero, List.set_cons_succ]
            refine wpAnyH_ready (rs := [1]) (by kernel_rfl) (by simp) ?_
            refine AllReadyH.cons rfl (fun K hK => ?_) AllReadyH.nil
            simp only [List.getElem_toArray, List.getElem_cons_succ, List.getElem_cons_zero]
            go_simp
            go_at_call 38
            refine (CG.out _ (HL.out.below (HB0.out.trans (hHeld.2.mono HB0.out.size)))).mono ?_
            rintro e w3 ⟨rfl, hb⟩
            dsimp only
            refine hK.out _ _ ?_ (fun hHeld => ?_)
            · exact L8.keep10 (by assumption) hb (Nat.le_refl _)
            clear hK K
            try simp only [Act.put, List.setIfInBounds_toArray, List.set_cons_zero, List.set_cons_succ]
            refine wpAnyH_take (i := 2) (v := ?v19) rfl (by kernel_rfl) (by kernel_rfl) (by kernel_rfl) (fun _ _ _ h => h) (Or.inl ⟨by rfl, ?y19⟩) (by assumption) ?r19
            case y19 => (intro w hSw; (try dsimp only at hSw); go_simp; try (with_reducible rfl))
            simp only [List.getElem_toArray, List.getElem_cons_succ, List.getElem_cons_zero, Act.put, List.setIfInBounds_toArray, List.set_cons_zero, List.set_cons_succ]
            refine wpAnyH_take (i := 3) (v := ?v20) rfl (by kernel_rfl) (by kernel_rfl) (by kernel_rfl) (fun _ _ _ h => h) (Or.inl ⟨by rfl, ?y20⟩) (by assumption) ?r20
            case y20 => (intro w hSw; (try dsimp only at hSw); go_simp; try (with_reducible rfl))
            simp only [List.getElem_toArray, List.getElem_cons_succ, List.getElem_cons_zero, Act.put, List.setIfInBounds_toArray, List.set_cons_zero, List.set_cons_succ]
            refine wpAnyH_take (i := 4) (v := ?v21) rfl (by kernel_rfl) (by kernel_rfl) (by kernel_rfl) (fun _ _ _ h => h) (Or.inl ⟨by rfl, ?y21⟩) (by assumption) ?r21
            case y21 => (intro w hSw; (try dsimp only at hSw); go_simp; try (with_reducible rfl))
            simp only [List.getElem_toArray, List.getElem_cons_succ, List.getElem_cons_zero, Act.put, List.setIfInBounds_toArray, List.set_cons_zero, List.set_cons_succ]
            refine wpAnyH_take (i := 5) (v := ?v22) rfl (by kernel_rfl) (by kernel_rfl) (by kernel_rfl) (fun _ _ _ h => h) (Or.inl ⟨by rfl, ?y22⟩) (by assumption) ?r22
            case y22 => (intro w hSw; (try dsimp only at hSw); go_simp; try (with_reducible rfl))
            simp only [List.getElem_toArray, List.getElem_cons_succ, List.getElem_cons_zero, Act.put, List.setIfInBounds_toArray, List.set_cons_zero, List.set_cons_succ]
            refine wpAnyH_take (i := 6) (v := ?v23) rfl (by kernel_rfl) (by kernel_rfl) (by kernel_rfl) (fun _ _ _ h => h) (Or.inl ⟨by rfl, ?y23⟩) (by assumption) ?r23
            case y23 => (intro w hSw; (try dsimp only at hSw); go_simp; try (with_reducible rfl))
            simp only [List.getElem_toArray, List.getElem_cons_succ, List.getElem_cons_zero, Act.put, List.setIfInBounds_toArray, List.set_cons_zero, List.set_cons_succ]
            refine wpAnyH_take (i := 7) (v := ?v24) rfl (by kernel_rfl) (by kernel_rfl) (by kernel_rfl) (fun _ _ _ h => h) (Or.inl ⟨by rfl, ?y24⟩) (by assumption) ?r24
            case y24 => (intro w hSw; (try dsimp only at hSw); go_simp; try (with_reducible rfl))
            simp only [List.getElem_toArray, List.getElem_cons_succ, List.getElem_cons_zero, Act.put, List.setIfInBounds_toArray, List.set_cons_zero, List.set_cons_succ]
            refine wpAnyH_take (i := 9) (v := ?v25) rfl (by kernel_rfl) (by kernel_rfl) (by kernel_rfl) (fun _ _ _ h => h) (Or.inl ⟨by rfl, ?y25⟩) (by assumption) ?r25
            case y25 => (intro w hSw; (try dsimp only at hSw); go_simp; try (with_reducible rfl))
            simp only [List.getElem_toArray, List.getElem_cons_succ, List.getElem_cons_zero, Act.put, List.setIfInBounds_toArray, List.set_cons_zero, List.set_cons_succ]
            refine wpAnyH_take (i := 10) (v := ?v26) rfl (by kernel_rfl) (by kernel_rfl) (by kernel_rfl) (fun _ _ _ h => h) (Or.inl ⟨by rfl, ?y26⟩) (by assumption) ?r26
            case y26 => (intro w hSw; (try dsimp only at hSw); go_simp; try (with_reducible rfl))
            simp only [List.getElem_toArray, List.getElem_cons_succ, List.getElem_cons_zero, Act.put, List.setIfInBounds_toArray, List.set_cons_zero, List.set_cons_succ]
            refine wpAnyH_take (i := 11) (v := ?v27) rfl (by kernel_rfl) (by kernel_rfl) (by kernel_rfl) (fun _ _ _ h => h) (Or.inl ⟨by rfl, ?y27⟩) (by assumption) ?r27
            case y27 => (intro w hSw; (try dsimp only at hSw); go_simp; try (with_reducible rfl))
            simp only [List.getElem_toArray, List.getElem_cons_succ, List.getElem_cons_zero, Act.put, List.setIfInBounds_toArray, List.set_cons_zero, List.set_cons_succ]
            refine wpAnyH_take (i := 12) (v := ?v28) rfl (by kernel_rfl) (by kernel_rfl) (by kernel_rfl) (fun _ _ _ h => h) (Or.inl ⟨by rfl, ?y28⟩) (by assumption) ?r28
            case y28 => (intro w hSw; (try dsimp only at hSw); go_simp; try (with_reducible rfl))
            simp only [List.getElem_toArray, List.getElem_cons_succ, List.getElem_cons_zero, Act.put, List.setIfInBounds_toArray, List.set_cons_zero, List.set_cons_succ]
            refine wpAnyH_take (i := 13) (v := ?v29) rfl (by kernel_rfl) (by kernel_rfl) (by kernel_rfl) (fun _ _ _ h => h) (Or.inl ⟨by rfl, ?y29⟩) (by assumption) ?r29
            case y29 => (intro w hSw; (try dsimp only at hSw); go_simp; try (with_reducible rfl))
            simp only [List.getElem_toArray, List.getElem_cons_succ, List.getElem_cons_zero, Act.put, List.setIfInBounds_toArray, List.set_cons_zero, List.set_cons_succ]
            refine wpAnyH_ready (rs := [8]) (by kernel_rfl) (by simp) ?_
            refine AllReadyH.cons rfl (fun K hK => ?_) AllReadyH.nil
            simp only [List.getElem_toArray, List.getElem_cons_succ, List.getElem_cons_zero]
            go_simp
            go_at_call 39
            refine (CX.out _ (HL.out.below (HB0.out.trans (hHeld.2.mono HB0.out.size)))).mono ?_
            rintro e w3 ⟨rfl, hb⟩
            dsimp only
            refine hK.out _ _ ?_ (fun hHeld => ?_)
            · exact L8.keep10 (by assumption) hb (Nat.le_refl _)
            clear hK K
            try simp only [Act.put, List.setIfInBounds_toArray, List.set_cons_zero, List.set_cons_succ]
            refine wpAnyH_ready (rs := [14]) (by kernel_rfl) (by simp) ?_
            refine AllReadyH.cons rfl (fun K hK => ?_) AllReadyH.nil
            simp only [List.getElem_toArray, List.getElem_cons_succ, List.getElem_cons_zero]
            go_simp
            go_at_call 39
            refine (CP.out _ (HY.out.below hHeld.2)).mono ?_
            rintro e w3 ⟨rfl, hb⟩
            dsimp only
            refine hK.out _ _ ?_ (fun hHeld => ?_)
            · exact L8.keep10 (by assumption) hb (Nat.le_refl _)
            clear hK K
            try simp only [Act.put, List.setIfInBounds_toArray, List.set_cons_zero, List.set_cons_succ]
            refine wpAnyH_take (i := 15) (v := ?v30) rfl (by kernel_rfl) (by kernel_rfl) (by kernel_rfl) (fun _ _ _ h => h) (Or.inl ⟨by rfl, ?y30⟩) (by assumption) ?r30
            case y30 => (intro w hSw; (try dsimp only at hSw); go_simp; try (with_reducible rfl))
            simp only [List.getElem_toArray, List.getElem_cons_succ, List.getElem_cons_zero, Act.put, List.setIfInBounds_toArray, List.set_cons_zero, List.set_cons_succ]
            refine wpAnyH_take (i := 16) (v := ?v31) rfl (by kernel_rfl) (by kernel_rfl) (by kernel_rfl) (fun _ _ _ h => h) (Or.inl ⟨by rfl, ?y31⟩) (by assumption) ?r31
            case y31 => (intro w hSw; (try dsimp only at hSw); go_simp; try (with_reducible rfl))
            simp only [List.getElem_toArray, List.getElem_cons_succ, List.getElem_cons_zero, Act.put, List.setIfInBounds_toArray, List.set_cons_zero, List.set_cons_succ]
            refine wpAnyH_take (i := 17) (v := ?v32) rfl (by kernel_rfl) (by kernel_rfl) (by kernel_rfl) (fun _ _ _ h => h) (Or.inl ⟨by rfl, ?y32⟩) (by assumption) ?r32
            case y32 => (intro w hSw; (try dsimp only at hSw); go_simp; try (with_reducible rfl))
            simp only [List.getElem_toArray, List.getElem_cons_succ, List.getElem_cons_zero, Act.put, List.setIfInBounds_toArray, List.set_cons_zero, List.set_cons_succ]
            refine wpAnyH_done (by kernel_rfl) ?_ _
            have B1 := hide ((HBEL.out.trans (HB0.out.mono HBEL.out.size)).trans (hHeld.2.mono (Nat.le_trans HBEL.out.size HB0.out.size)))
            have E := hide (bool_no14 HBB.out (fun hg => HAH.out (by have := (hg.2 (q + 1) (by rw [HN.out]; exact hlt)).2 (by omega); rw [← HP.out, show q + 1 - 1 = q by omega, ← HP'.out] at this; rw [HTP.out, HTX.out]; exact this)))
            clear hHeld
            go_wp2
            go_ret
            exact ⟨by rw [E.out]; rfl, B1.out⟩
          · have hgt : Ahead tp tx := Decidable.not_not.1 hah
            have hle1 := (ahead_not hgt).1
            have hle2 := (ahead_not hgt).2
            have HGT := hide hgt
            clear hah hgt
            refine wp_region_held_drew (S := fun wx => (wx.cell? ⟨wr.heap.size, 0, none⟩ = some (.slice ai m ci) ∧ wx.cell? ⟨wr.heap.size, 1, none⟩ = some (.int .i64 v0) ∧ wx.cell? ⟨wr.heap.size, 2, none⟩ = some (.int .i64 v1) ∧ wx.cell? ⟨wr.heap.size, 3, none⟩ = some (.int .i64 v2) ∧ wx.cell? ⟨wr.heap.size, 4, none⟩ = some (.int .i64 v3) ∧ wx.cell? ⟨b, off + q * 5, none⟩ = some (.slice aj mj cj) ∧ wx.cell? ⟨b, off + q * 5 + 1, none⟩ = some (.int .i64 u0) ∧ wx.cell? ⟨b, off + q * 5 + 2, none⟩ = some (.int .i64 u1) ∧ wx.cell? ⟨b, off + q * 5 + 3, none⟩ = some (.int .i64 u2) ∧ wx.cell? ⟨b, off + q * 5 + 4, none⟩ = some (.int .i64 u3)) ∧ Below W0.heap.size W0 wx) (by kernel_rfl) ⟨⟨c0, c1, c2, c3, c4, y0, y1, y2, y3, y4⟩, (Below.refl _ _).drew⟩ (fun hHeld => ?_)
            refine wpAnyH_take (i := 0) (v := ?v33) rfl (by kernel_rfl) (by kernel_rfl) (by kernel_rfl) (fun _ _ _ h => h) (Or.inl ⟨by rfl, ?y33⟩) (by assumption) ?r33
            case y33 => (intro w hSw; (try dsimp only at hSw); go_simp; try (with_reducible rfl))
            simp only [List.getElem_toArray, List.getElem_cons_zero, Act.put, List.setIfInBounds_toArray, List.set_cons_zero, List.set_cons_succ]
            refine wpAnyH_ready (rs := [1]) (by kernel_rfl) (by simp) ?_
            refine AllReadyH.cons rfl (fun K hK => ?_) AllReadyH.nil
            simp only [List.getElem_toArray, List.getElem_cons_succ, List.getElem_cons_zero]
            go_simp
            go_at_call 38
            refine (CG.out _ (HL.out.below (HB0.out.trans (hHeld.2.mono HB0.out.size)))).mono ?_
            rintro e w3 ⟨rfl, hb⟩
            dsimp only
            refine hK.out _ _ ?_ (fun hHeld => ?_)
            · exact L8.keep10 (by assumption) hb (Nat.le_refl _)
            clear hK K
            try simp only [Act.put, List.setIfInBounds_toArray, List.set_cons_zero, List.set_cons_succ]
            refine wpAnyH_take (i := 2) (v := ?v34) rfl (by kernel_rfl) (by kernel_rfl) (by kernel_rfl) (fun _ _ _ h => h) (Or.inl ⟨by rfl, ?y34⟩) (by assumption) ?r34
            case y34 => (intro w hSw; (try dsimp only at hSw); go_simp; try (with_reducible rfl))
            simp only [List.getElem_toArray, List.getElem_cons_succ, List.getElem_cons_zero, Act.put, List.setIfInBounds_toArray, List.set_cons_zero, List.set_cons_succ]
            refine wpAnyH_take (i := 3) (v := ?v35) rfl (by kernel_rfl) (by kernel_rfl) (by kernel_rfl) (fun _ _ _ h => h) (Or.inl ⟨by rfl, ?y35⟩) (by assumption) ?r35
            case y35 => (intro w hSw; (try dsimp only at hSw); go_simp; try (with_reducible rfl))
            simp only [List.getElem_toArray, List.getElem_cons_succ, List.getElem_cons_zero, Act.put, List.setIfInBounds_toArray, List.set_cons_zero, List.set_cons_succ]
            refine wpAnyH_take (i := 4) (v := ?v36) rfl (by kernel_rfl) (by kernel_rfl) (by kernel_rfl) (fun _ _ _ h => h) (Or.inl ⟨by rfl, ?y36⟩) (by assumption) ?r36
            case y36 => (intro w hSw; (try dsimp only at hSw); go_simp; try (with_reducible rfl))
            simp only [List.getElem_toArray, List.getElem_cons_succ, List.getElem_cons_zero, Act.put, List.setIfInBounds_toArray, List.set_cons_zero, List.set_cons_succ]
            refine wpAnyH_take (i := 5) (v := ?v37) rfl (by kernel_rfl) (by kernel_rfl) (by kernel_rfl) (fun _ _ _ h => h) (Or.inl ⟨by rfl, ?y37⟩) (by assumption) ?r37
            case y37 => (intro w hSw; (try dsimp only at hSw); go_simp; try (with_reducible rfl))
            simp only [List.getElem_toArray, List.getElem_cons_succ, List.getElem_cons_zero, Act.put, List.setIfInBounds_toArray, List.set_cons_zero, List.set_cons_succ]
            refine wpAnyH_take (i := 6) (v := ?v38) rfl (by kernel_rfl) (by kernel_rfl) (by kernel_rfl) (fun _ _ _ h => h) (Or.inl ⟨by rfl, ?y38⟩) (by assumption) ?r38
            case y38 => (intro w hSw; (try dsimp only at hSw); go_simp; try (with_reducible rfl))
            simp only [List.getElem_toArray, List.getElem_cons_succ, List.getElem_cons_zero, Act.put, List.setIfInBounds_toArray, List.set_cons_zero, List.set_cons_succ]
            refine wpAnyH_take (i := 7) (v := ?v39) rfl (by kernel_rfl) (by kernel_rfl) (by kernel_rfl) (fun _ _ _ h => h) (Or.inl ⟨by rfl, ?y39⟩) (by assumption) ?r39
            case y39 => (intro w hSw; (try dsimp only at hSw); go_simp; try (with_reducible rfl))
            simp only [List.getElem_toArray, List.getElem_cons_succ, List.getElem_cons_zero, Act.put, List.setIfInBounds_toArray, List.set_cons_zero, List.set_cons_succ]
            refine wpAnyH_take (i := 9) (v := ?v40) rfl (by kernel_rfl) (by kernel_rfl) (by kernel_rfl) (fun _ _ _ h => h) (Or.inl ⟨by rfl, ?y40⟩) (by assumption) ?r40
            case y40 => (intro w hSw; (try dsimp only at hSw); go_simp; try (with_reducible rfl))
            simp only [List.getElem_toArray, List.getElem_cons_succ, List.getElem_cons_zero, Act.put, List.setIfInBounds_toArray, List.set_cons_zero, List.set_cons_succ]
            refine wpAnyH_take (i := 10) (v := ?v41) rfl (by kernel_rfl) (by kernel_rfl) (by kernel_rfl) (fun _ _ _ h => h) (Or.inl ⟨by rfl, ?y41⟩) (by assumption) ?r41
            case y41 => (intro w hSw; (try dsimp only at hSw); go_simp; try (with_reducible rfl))
            simp only [List.getElem_toArray, List.getElem_cons_succ, List.getElem_cons_zero, Act.put, List.setIfInBounds_toArray, List.set_cons_zero, List.set_cons_succ]
            refine wpAnyH_take (i := 11) (v := ?v42) rfl (by kernel_rfl) (by kernel_rfl) (by kernel_rfl) (fun _ _ _ h => h) (Or.inl ⟨by rfl, ?y42⟩) (by assumption) ?r42
            case y42 => (intro w hSw; (try dsimp only at hSw); go_simp; try (with_reducible rfl))
            simp only [List.getElem_toArray, List.getElem_cons_succ, List.getElem_cons_zero, Act.put, List.setIfInBounds_toArray, List.set_cons_zero, List.set_cons_succ]
            refine wpAnyH_take (i := 12) (v := ?v43) rfl (by kernel_rfl) (by kernel_rfl) (by kernel_rfl) (fun _ _ _ h => h) (Or.inl ⟨by rfl, ?y43⟩) (by assumption) ?r43
            case y43 => (intro w hSw; (try dsimp only at hSw); go_simp; try (with_reducible rfl))
            simp only [List.getElem_toArray, List.getElem_cons_succ, List.getElem_cons_zero, Act.put, List.setIfInBounds_toArray, List.set_cons_zero, List.set_cons_succ]
            refine wpAnyH_take (i := 13) (v := ?v44) rfl (by kernel_rfl) (by kernel_rfl) (by kernel_rfl) (fun _ _ _ h => h) (Or.inl ⟨by rfl, ?y44⟩) (by assumption) ?r44
            case y44 => (intro w hSw; (try dsimp only at hSw); go_simp; try (with_reducible rfl))
            simp only [List.getElem_toArray, List.getElem_cons_succ, List.getElem_cons_zero, Act.put, List.setIfInBounds_toArray, List.set_cons_zero, List.set_cons_succ]
            refine wpAnyH_ready (rs := [8]) (by kernel_rfl) (by simp) ?_
            refine AllReadyH.cons rfl (fun K hK => ?_) AllReadyH.nil
            simp only [List.getElem_toArray, List.getElem_cons_succ, List.getElem_cons_zero]
            go_simp
            go_at_call 39
            refine (CX.out _ (HL.out.below (HB0.out.trans (hHeld.2.mono HB0.out.size)))).mono ?_
            rintro e w3 ⟨rfl, hb⟩
            dsimp only
            refine hK.out _ _ ?_ (fun hHeld => ?_)
            · exact L8.keep10 (by assumption) hb (Nat.le_refl _)
            clear hK K
            try simp only [Act.put, List.setIfInBounds_toArray, List.set_cons_zero, List.set_cons_succ]
            refine wpAnyH_ready (rs := [14]) (by kernel_rfl) (by simp) ?_
            refine AllReadyH.cons rfl (fun K hK => ?_) AllReadyH.nil
            simp only [List.getElem_toArray, List.getElem_cons_succ, List.getElem_cons_zero]
            go_simp
            go_at_call 39
            refine (CP.out _ (HY.out.below hHeld.2)).mono ?_
            rintro e w3 ⟨rfl, hb⟩
            dsimp only
            refine hK.out _ _ ?_ (fun hHeld => ?_)
            · exact L8.keep10 (by assumption) hb (Nat.le_refl _)
            clear hK K
            try simp only [Act.put, List.setIfInBounds_toArray, List.set_cons_zero, List.set_cons_succ]
            refine wpAnyH_take (i := 15) (v := ?v45) rfl (by kernel_rfl) (by kernel_rfl) (by kernel_rfl) (fun _ _ _ h => h) (Or.inl ⟨by rfl, ?y45⟩) (by assumption) ?r45
            case y45 => (intro w hSw; (try dsimp only at hSw); go_simp; try (with_reducible rfl))
            simp only [List.getElem_toArray, List.getElem_cons_succ, List.getElem_cons_zero, Act.put, List.setIfInBounds_toArray, List.set_cons_zero, List.set_cons_succ]
            refine wpAnyH_take (i := 16) (v := ?v46) rfl (by kernel_rfl) (by kernel_rfl) (by kernel_rfl) (fun _ _ _ h => h) (Or.inl ⟨by rfl, ?y46⟩) (by assumption) ?r46
            case y46 => (intro w hSw; (try dsimp only at hSw); go_simp; try (with_reducible rfl))
            simp only [List.getElem_toArray, List.getElem_cons_succ, List.getElem_cons_zero, Act.put, List.setIfInBounds_toArray, List.set_cons_zero, List.set_cons_succ]
            refine wpAnyH_take (i := 17) (v := ?v47) rfl (by kernel_rfl) (by kernel_rfl) (by kernel_rfl) (fun _ _ _ h => h) (Or.inl ⟨by rfl, ?y47⟩) (by assumption) ?r47
            case y47 => (intro w hSw; (try dsimp only at hSw); go_simp; try (with_reducible rfl))
            simp only [List.getElem_toArray, List.getElem_cons_succ, List.getElem_cons_zero, Act.put, List.setIfInBounds_toArray, List.set_cons_zero, List.set_cons_succ]
            refine wpAnyH_done (by kernel_rfl) ?_ _
            have B1 := hide ((HBEL.out.trans (HB0.out.mono HBEL.out.size)).trans (hHeld.2.mono (Nat.le_trans HBEL.out.size HB0.out.size)))
            clear hHeld
            go_wp2
            go_roundw
            case rel => exact ⟨q + 1 + 1, by omega, by go_num, HJ.out.next (by rw [← HP.out]; exact HOK.out) (fun _ => by rw [← HP.out, show q + 1 - 1 = q by omega, ← HP'.out]; have := HGT.out; rw [HTP.out, HTX.out] at this; exact this), B1.out⟩
            case measure => simp [intOf]; omega
      · have CG := hide (fun w hs => goodTotal_any ai x m ci v0 v1 v2 v3 w HM.out.symm (by omega) hs hsx.2 false (by simp [hok]))
        have HNO := hide hok
        clear hok HPREV
        refine wp_region_held_drew (S := fun wx => (wx.cell? ⟨wr.heap.size, 0, none⟩ = some (.slice ai m ci) ∧ wx.cell? ⟨wr.heap.size, 1, none⟩ = some (.int .i64 v0) ∧ wx.cell? ⟨wr.heap.size, 2, none⟩ = some (.int .i64 v1) ∧ wx.cell? ⟨wr.heap.size, 3, none⟩ = some (.int .i64 v2) ∧ wx.cell? ⟨wr.heap.size, 4, none⟩ = some (.int .i64 v3)) ∧ Below W0.heap.size W0 wx) (by kernel_rfl) ⟨⟨c0, c1, c2, c3, c4⟩, (Below.refl _ _).drew⟩ (fun hHeld => ?_)
        refine wpAnyH_take (i := 0) (v := ?v48) rfl (by kernel_rfl) (by kernel_rfl) (by kernel_rfl) (fun _ _ _ h => h) (Or.inl ⟨by rfl, ?y48⟩) (by assumption) ?r48
        case y48 => (intro w hSw; (try dsimp only at hSw); go_simp; try (with_reducible rfl))
        simp only [List.getElem_toArray, List.getElem_cons_zero, Act.put, List.setIfInBounds_toArray, List.set_cons_zero, List.set_cons_succ]
        refine wpAnyH_ready (rs := [1]) (by kernel_rfl) (by simp) ?_
        refine AllReadyH.cons rfl (fun K hK => ?_) AllReadyH.nil
        simp only [List.getElem_toArray, List.getElem_cons_succ, List.getElem_cons_zero]
        go_simp
        go_at_call 38
        refine (CG.out _ (HL.out.below (HB0.out.trans (hHeld.2.mono HB0.out.size)))).mono ?_
        rintro e w3 ⟨rfl, hb⟩
        dsimp only
        refine hK.out _ _ ?_ (fun hHeld => ?_)
        · exact L8.keep5 (by assumption) hb (Nat.le_refl _)
        clear hK K
        try simp only [Act.put, List.setIfInBounds_toArray, List.set_cons_zero, List.set_cons_succ]
        refine wpAnyH_take (i := 2) (v := ?v49) rfl (by kernel_rfl) (by kernel_rfl) (by kernel_rfl) (fun _ _ _ h => h) (Or.inl ⟨by rfl, ?y49⟩) (by assumption) ?r49
        case y49 => (intro w hSw; (try dsimp only at hSw); go_simp; try (with_reducible rfl))
        simp only [List.getElem_toArray, List.getElem_cons_succ, List.getElem_cons_zero, Act.put, List.setIfInBounds_toArray, List.set_cons_zero, List.set_cons_succ]
        refine wpAnyH_take (i := 3) (v := ?v50) rfl (by kernel_rfl) (by kernel_rfl) (by kernel_rfl) (fun _ _ _ h => h) (Or.inl ⟨by rfl, ?y50⟩) (by assumption) ?r50
        case y50 => (intro w hSw; (try dsimp only at hSw); go_simp; try (with_reducible rfl))
        simp only [List.getElem_toArray, List.getElem_cons_succ, List.getElem_cons_zero, Act.put, List.setIfInBounds_toArray, List.set_cons_zero, List.set_cons_succ]
        refine wpAnyH_take (i := 4) (v := undef) rfl (by kernel_rfl) (by kernel_rfl) (by kernel_rfl) (fun _ _ _ h => h) (Or.inr ⟨by rfl, rfl⟩) (by assumption) ?_
        simp only [List.getElem_toArray, List.getElem_cons_succ, List.getElem_cons_zero, Act.put, List.setIfInBounds_toArray, List.set_cons_zero, List.set_cons_succ]
        refine wpAnyH_take (i := 5) (v := undef) rfl (by kernel_rfl) (by kernel_rfl) (by kernel_rfl) (fun _ _ _ h => h) (Or.inr ⟨by rfl, rfl⟩) (by assumption) ?_
        simp only [List.getElem_toArray, List.getElem_cons_succ, List.getElem_cons_zero, Act.put, List.setIfInBounds_toArray, List.set_cons_zero, List.set_cons_succ]
        refine wpAnyH_take (i := 6) (v := undef) rfl (by kernel_rfl) (by kernel_rfl) (by kernel_rfl) (fun _ _ _ h => h) (Or.inr ⟨by rfl, rfl⟩) (by assumption) ?_
        simp only [List.getElem_toArray, List.getElem_cons_succ, List.getElem_cons_zero, Act.put, List.setIfInBounds_toArray, List.set_cons_zero, List.set_cons_succ]
        refine wpAnyH_take (i := 7) (v := undef) rfl (by kernel_rfl) (by kernel_rfl) (by kernel_rfl) (fun _ _ _ h => h) (Or.inr ⟨by rfl, rfl⟩) (by assumption) ?_
        simp only [List.getElem_toArray, List.getElem_cons_succ, List.getElem_cons_zero, Act.put, List.setIfInBounds_toArray, List.set_cons_zero, List.set_cons_succ]
        refine wpAnyH_take (i := 8) (v := undef) rfl (by kernel_rfl) (by kernel_rfl) (by kernel_rfl) (fun _ _ _ h => h) (Or.inr ⟨by rfl, rfl⟩) (by assumption) ?_
        simp only [List.getElem_toArray, List.getElem_cons_succ, List.getElem_cons_zero, Act.put, List.setIfInBounds_toArray, List.set_cons_zero, List.set_cons_succ]
        refine wpAnyH_take (i := 9) (v := undef) rfl (by kernel_rfl) (by kernel_rfl) (by kernel_rfl) (fun _ _ _ h => h) (Or.inr ⟨by rfl, rfl⟩) (by assumption) ?_
        simp only [List.getElem_toArray, List.getElem_cons_succ, List.getElem_cons_zero, Act.put, List.setIfInBounds_toArray, List.set_cons_zero, List.set_cons_succ]
        refine wpAnyH_take (i := 10) (v := undef) rfl (by kernel_rfl) (by kernel_rfl) (by kernel_rfl) (fun _ _ _ h => h) (Or.inr ⟨by rfl, rfl⟩) (by assumption) ?_
        simp only [List.getElem_toArray, List.getElem_cons_succ, List.getElem_cons_zero, Act.put, List.setIfInBounds_toArray, List.set_cons_zero, List.set_cons_succ]
        refine wpAnyH_take (i := 11) (v := undef) rfl (by kernel_rfl) (by kernel_rfl) (by kernel_rfl) (fun _ _ _ h => h) (Or.inr ⟨by rfl, rfl⟩) (by assumption) ?_
        simp only [List.getElem_toArray, List.getElem_cons_succ, List.getElem_cons_zero, Act.put, List.setIfInBounds_toArray, List.set_cons_zero, List.set_cons_succ]
        refine wpAnyH_take (i := 12) (v := undef) rfl (by kernel_rfl) (by kernel_rfl) (by kernel_rfl) (fun _ _ _ h => h) (Or.inr ⟨by rfl, rfl⟩) (by assumption) ?_
        simp only [List.getElem_toArray, List.getElem_cons_succ, List.getElem_cons_zero, Act.put, List.setIfInBounds_toArray, List.set_cons_zero, List.set_cons_succ]
        refine wpAnyH_take (i := 13) (v := undef) rfl (by kernel_rfl) (by kernel_rfl) (by kernel_rfl) (fun _ _ _ h => h) (Or.inr ⟨by rfl, rfl⟩) (by assumption) ?_
        simp only [List.getElem_toArray, List.getElem_cons_succ, List.getElem_cons_zero, Act.put, List.setIfInBounds_toArray, List.set_cons_zero, List.set_cons_succ]
        refine wpAnyH_take (i := 14) (v := undef) rfl (by kernel_rfl) (by kernel_rfl) (by kernel_rfl) (fun _ _ _ h => h) (Or.inr ⟨by rfl, rfl⟩) (by assumption) ?_
        simp only [List.getElem_toArray, List.getElem_cons_succ, List.getElem_cons_zero, Act.put, List.setIfInBounds_toArray, List.set_cons_zero, List.set_cons_succ]
        refine wpAnyH_take (i := 15) (v := undef) rfl (by kernel_rfl) (by kernel_rfl) (by kernel_rfl) (fun _ _ _ h => h) (Or.inr ⟨by rfl, rfl⟩) (by assumption) ?_
        simp only [List.getElem_toArray, List.getElem_cons_succ, List.getElem_cons_zero, Act.put, List.setIfInBounds_toArray, List.set_cons_zero, List.set_cons_succ]
        refine wpAnyH_take (i := 16) (v := undef) rfl (by kernel_rfl) (by kernel_rfl) (by kernel_rfl) (fun _ _ _ h => h) (Or.inr ⟨by rfl, rfl⟩) (by assumption) ?_
        simp only [List.getElem_toArray, List.getElem_cons_succ, List.getElem_cons_zero, Act.put, List.setIfInBounds_toArray, List.set_cons_zero, List.set_cons_succ]
        refine wpAnyH_take (i := 17) (v := ?v64) rfl (by kernel_rfl) (by kernel_rfl) (by kernel_rfl) (fun _ _ _ h => h) (Or.inl ⟨by rfl, ?y64⟩) (by assumption) ?r64
        case y64 => (intro w hSw; (try dsimp only at hSw); go_simp; try (with_reducible rfl))
        simp only [List.getElem_toArray, List.getElem_cons_succ, List.getElem_cons_zero, Act.put, List.setIfInBounds_toArray, List.set_cons_zero, List.set_cons_succ]
        refine wpAnyH_done (by kernel_rfl) ?_ _
        have B1 := hide ((HBEL.out.trans (HB0.out.mono HBEL.out.size)).trans (hHeld.2.mono (Nat.le_trans HBEL.out.size HB0.out.size)))
        have E := hide (bool_no14 HBB.out (fun hg => HNO.out (show GoodL x ∧ okN v0 v1 v2 v3 from (by have := (hg.2 k (by rw [HN.out]; exact hlt)).1; rw [← HP.out] at this; exact this : okT ⟨x, v0, v1, v2, v3⟩))))
        clear hHeld
        go_wp2
        go_ret
        exact ⟨by rw [E.out]; rfl, B1.out⟩
    · obtain rfl : k = n := by omega
      have hltI : ¬ (k : Int) < (k : Int) := by omega
      have E := hide (HBB.out.2 ⟨by rw [HN.out]; omega, by rw [HN.out]; exact HJ.out⟩)
      have B1 := hide hbel
      clear hbel
      go_wp2
      go_ret
      exact ⟨by rw [E.out]; rfl, B1.out⟩
end Go.Proofs.Ytohcjafklfemfam.L14T

namespace Go.Proofs.Ytohcjafklfemfam.L14T
open Go.RowKit L1 L3
set_option linter.unusedVariables false

set_option maxRecDepth 100000 in
set_option maxHeartbeats 400000 in
theorem valueOf_any (a : Option Addr) (n c : Nat) (l : List Lb) (v0 v1 v2 v3 op : Int) (w : World) (hop : okOp op) :
    Calls Try.prog 53 #[.agg #[.slice a n c, .int .i64 v0, .int .i64 v1, .int .i64 v2, .int .i64 v3], .int .i64 op] w fun e w' => e = .returned (.int .i64 (valOf op ⟨l, v0, v1, v2, v3⟩)) ∧ Below w.heap.size w w' := by
  rcases hop with rfl | rfl | rfl | rfl
  · go_enter Try.func53, Try.ntmps53
    go_wp2
    go_ret
    exact ⟨rfl, (Below.refl _ _).alloc (Nat.le_refl _) _⟩
  · go_enter Try.func53, Try.ntmps53
    go_wp2
    go_ret
    exact ⟨rfl, (Below.refl _ _).alloc (Nat.le_refl _) _⟩
  · go_enter Try.func53, Try.ntmps53
    go_wp2
    go_ret
    exact ⟨rfl, (Below.refl _ _).alloc (Nat.le_refl _) _⟩
  · go_enter Try.func53, Try.ntmps53
    go_wp2
    go_ret
    exact ⟨rfl, (Below.refl _ _).alloc (Nat.le_refl _) _⟩
set_option maxRecDepth 100000 in
set_option maxHeartbeats 400000 in
theorem valClo_any (a : Option Addr) (n c : Nat) (l : List Lb) (v0 v1 v2 v3 op : Int) (pb : Nat) (w : World) (hop : okOp op) (hp : w.cell? ⟨pb, 0, none⟩ = some (.int .i64 op)) :
    Calls Try.prog 52 #[.agg #[.slice a n c, .int .i64 v0, .int .i64 v1, .int .i64 v2, .int .i64 v3], .pointer (some ⟨pb, 0, none⟩)] w fun e w' => e = .returned (.int .i64 (valOf op ⟨l, v0, v1, v2, v3⟩)) ∧ Below w.heap.size w w' := by
  have CV := hide (fun w => valueOf_any a n c l v0 v1 v2 v3 op w hop)
  obtain ⟨z, hz⟩ : ∃ z, z = valOf op ⟨l, v0, v1, v2, v3⟩ := ⟨_, rfl⟩
  rw [← hz] at CV ⊢
  have hb0 := (Below.refl w.heap.size w).alloc (Nat.le_refl _) (.cells #[.slice a n c, .int .i64 v0, .int .i64 v1, .int .i64 v2, .int .i64 v3] 60 (0, 0))
  have hp1 := (hb0.cell (p := ⟨pb, 0, none⟩) (blk_lt hp)).trans hp
  have B0 := hide hb0
  clear hz hop hb0 hp
  go_enter Try.func52, Try.ntmps52
  go_wp2_with fail
  refine (CV.out _).mono ?_
  rintro e w1 ⟨rfl, hb⟩
  have B1 := hide (B0.out.trans (hb.mono B0.out.size))
  clear hb
  go_wp2
  go_ret
  exact ⟨rfl, B1.out⟩
set_option maxRecDepth 100000 in
set_option maxHeartbeats 4000000 in
theorem eachVals_any (a : Option Addr) (L : List Rw) (n cap : Nat) (op : Int) (pb g : Nat) (w : World) (hn : L.length = n) (hn2 : n ≤ 1048576) (hs : SlR w a L) (hop : okOp op) (hp : w.cell? ⟨pb, 0, none⟩ = some (.int .i64 op)) (hq : w.cell? ⟨g, 0, none⟩ = some (.slice a n cap)) :
    Calls Try.prog 51 #[.func (.func 52) #[] #[.pointer (some ⟨pb, 0, none⟩)], .slice (some ⟨g, 0, none⟩) 1 1] w fun e w' => ∃ v, e = .returned v ∧ w'.ownsRow w.heap.size 3 1 v n (vals op L) ∧ Below w.heap.size w w' := by
  have HS := hide hs
  have HN := hide hn
  have HOP := hide hop
  have HP := hide hp
  have HQ := hide hq
  obtain ⟨i1, hi1, hy0, hy1, hy2⟩ := info_parts info_int
  clear hs hn hop hp hq
  go_enter Try.func51, Try.ntmps51
  go_wp2
  go_loopw [5, 12] (fun ot i wr => ∃ c : Nat, ((i = .int .i64 0 ∧ c = 0) ∨ (i = .int .i64 1 ∧ c = n)) ∧ wr.ownsRow w.heap.size 3 1 ot c (vals op (L.take c)) ∧ Below w.heap.size w wr) (fun _ i _ => 1 - (intOf i).toNat)
  case atStart => exact ⟨0, .inl ⟨rfl, rfl⟩, by rw [vals_zero]; exact World.ownsRow_nil _ _ _ _, Below.refl _ _⟩
  case round =>
    obtain ⟨c, hcc, hown, hbel⟩ := hrel
    obtain ⟨oa, ocap, rfl⟩ := own_shapeV hown
    rcases hcc with ⟨rfl, rfl⟩ | ⟨rfl, hc⟩
    · have h01 : (0 : Int) < 1 := by omega
      have hq2 := (hbel.cell (p := ⟨g, 0, none⟩) (blk_lt HQ.out)).trans HQ.out
      have HROW0 := hide hown
      have B00 := hide hbel
      clear hown hbel
      go_wp2
      go_loopw [5, 18] (fun ot i wr => ∃ k : Nat, k ≤ n ∧ i = .int .i64 k ∧ wr.ownsRow w.heap.size 3 1 ot k (vals op (L.take k)) ∧ Below w.heap.size w wr) (fun _ i _ => n - (intOf i).toNat)
      case atStart => exact ⟨0, Nat.zero_le _, rfl, HROW0.out, B00.out⟩
      case round =>
        obtain ⟨k, hk, rfl, hown, hbel⟩ := hrel
        obtain ⟨oa, ocap, rfl⟩ := own_shapeV hown
        by_cases hlt : k < n
        · have hkx : k < L.length := by rw [HN.out]; exact hlt
          obtain ⟨b, off, rfl, ai, ci, hat⟩ := HS.out.below hbel k hkx
          have hvt := vals_take op L k hkx
          obtain ⟨x0, x1, x2, x3, x4, t1⟩ := hat
          obtain ⟨p, hpp⟩ : ∃ p, p = gr L k := ⟨_, rfl⟩
          rw [← hpp] at x0 x1 x2 x3 x4 hvt
          obtain ⟨x, v0, v1, v2, v3⟩ := p
          simp only at x0 x1 x2 x3 x4
          obtain ⟨m, hm2⟩ : ∃ m, m = x.length := ⟨_, rfl⟩
          rw [← hm2] at x0
          have hltI : (k : Int) < (n : Int) := by omega
          have hsz := hbel.size
          have hba := hbel.alloc hsz (.cells #[.slice ai m ci, .int .i64 v0, .int .i64 v1, .int .i64 v2, .int .i64 v3] 60 (0, 0))
          have CC := hide (valClo_any ai m ci x v0 v1 v2 v3 op pb _ HOP.out ((hba.cell (p := ⟨pb, 0, none⟩) (blk_lt HP.out)).trans HP.out))
          obtain ⟨z, hz⟩ : ∃ z, z = valOf op ⟨x, v0, v1, v2, v3⟩ := ⟨_, rfl⟩
          rw [← hz] at CC hvt
          have HVT := hide hvt
          have HROW := hide (hown.alloc (.cells #[.slice ai m ci, .int .i64 v0, .int .i64 v1, .int .i64 v2, .int .i64 v3] 60 (0, 0)))
          have B0 := hide hba
          clear hpp t1 hm2 hvt hz hown hbel hkx hba
          go_wp2_with fail
          go_at_call 52
          refine CC.out.mono ?_
          rintro e w1 ⟨rfl, hb1⟩
          have O1 := hide (own_belowR HROW.out hb1)
          have B1 := hide (B0.out.trans (hb1.mono B0.out.size))
          have hsz1 := B1.out.size
          clear hb1
          go_wp2_with (first
            | (at_builtin; refine wpList_append_own _ rfl _ _ 37 rfl w.heap.size 3 i1 (.int .i64 0) 1 8 Try.underlying37 hi1 hy0 hy1 hy2 rfl (by decide) _ _ _ rfl (O1.out.alloc _) ⟨w1.heap.size, 0, none⟩ 1 1 [.int .i64 z] rfl rfl (cell_oneV _ _ _) (by intro u hu; simp at hu; subst hu; rfl) (by unfold maxLen; omega) (by omega) (by simp; omega) ?_)
            | go_in)
          intro v6 w6 hown6 hgrow6 _
          have hb6 := B1.out.trans (((Below.refl _ _).alloc hsz1 _).grown hgrow6 (by simp; omega) (fun g hg => (O1.out.lt g hg).1))
          have hown7 := hide (show w6.ownsRow w.heap.size 3 1 v6 (k + 1) (vals op (L.take (k + 1))) by rw [HVT.out]; exact hown6)
          clear hown6 hgrow6
          go_wp2
          go_roundw
          case rel => exact ⟨k + 1, by omega, by go_num, hown7.out, hb6⟩
          case measure => simp [intOf]; omega
        · obtain rfl : k = n := by omega
          have hltI : ¬ (k : Int) < (k : Int) := by omega
          have HROW := hide hown
          have B0 := hide hbel
          clear hown hbel
          go_wp2
          go_roundw
          case rel => exact ⟨k, .inr ⟨by first | rfl | go_num, rfl⟩, HROW.out, B0.out⟩
          case measure => simp [intOf]
    · subst hc
      have hltI : ¬ (1 : Int) < 1 := by omega
      have e1 : L.take c = L := List.take_of_length_le (by rw [HN.out]; exact Nat.le_refl _)
      rw [e1] at hown
      have HROW := hide hown
      have B0 := hide hbel
      clear e1 hown hbel
      go_wp2
      go_ret
      exact ⟨_, rfl, HROW.out, B0.out⟩
open Classical in
set_option maxRecDepth 100000 in
set_option maxHeartbeats 1000000 in
theorem implValuesOf_any (a : Option Addr) (L : List Rw) (n cap : Nat) (op : Int) (w : World) (hn : L.length = n) (hm : n ≤ 1048576) (hs : SlR w a L) (hst : TxR L) (hlx : ∀ j, j < L.length → (gr L j).l.length ≤ 1048576) (r : Option (List Int)) (hr : r = valRes L op) :
    Calls Try.prog 22 #[.slice a n cap, .int .i64 op] w fun e w' => RetI w r e w' := by
  have HS := hide hs
  by_cases hg : GoodT L
  · have CG := hide (fun w hs => implGoodTotals_any a L n cap w hn hm hs hst hlx true (by simp [hg]))
    by_cases h1 : op < 1
    · have hr' : r = none := by rw [hr]; unfold valRes; rw [if_neg (fun h => by have := (okOp_iff op).1 h.2; omega)]
      have HR := hide hr'
      clear hr hr' hg hs hst hlx hn
      go_enter Try.func22, Try.ntmps22
      go_wp2_with fail
      refine (CG.out _ (HS.out.below ((Below.refl _ _).alloc (Nat.le_refl _) _))).mono ?_
      rintro e w1 ⟨rfl, hb1⟩
      have c0 : w1.cell? ⟨w.heap.size, 0, none⟩ = some (.int .i64 op) := (hb1.cell (p := ⟨w.heap.size, 0, none⟩) (by simp)).trans (by simp)
      have B1 := hide (((Below.refl w.heap.size w).alloc (Nat.le_refl _) (.cells #[.int .i64 op] 3 (0, 0))).trans (hb1.mono (by simp)))
      clear hb1
      go_wp2
      go_ret2
      exact ⟨_, by rw [HR.out]; rfl, by rw [HR.out]; exact World.ownsRow_nil _ _ _ _, B1.out⟩
    by_cases h4 : 4 < op
    · have hr' : r = none := by rw [hr]; unfold valRes; rw [if_neg (fun h => by have := (okOp_iff op).1 h.2; omega)]
      have HR := hide hr'
      clear hr hr' hg hs hst hlx hn
      go_enter Try.func22, Try.ntmps22
      go_wp2_with fail
      refine (CG.out _ (HS.out.below ((Below.refl _ _).alloc (Nat.le_refl _) _))).mono ?_
      rintro e w1 ⟨rfl, hb1⟩
      have c0 : w1.cell? ⟨w.heap.size, 0, none⟩ = some (.int .i64 op) := (hb1.cell (p := ⟨w.heap.size, 0, none⟩) (by simp)).trans (by simp)
      have B1 := hide (((Below.refl w.heap.size w).alloc (Nat.le_refl _) (.cells #[.int .i64 op] 3 (0, 0))).trans (hb1.mono (by simp)))
      clear hb1
      go_wp2
      go_ret2
      exact ⟨_, by rw [HR.out]; rfl, by rw [HR.out]; exact World.ownsRow_nil _ _ _ _, B1.out⟩
    have hop : okOp op := (okOp_iff op).2 ⟨by omega, by omega⟩
    have hr' : r = some (L.map (valOf op)) := by rw [hr]; unfold valRes; rw [if_pos ⟨hg, hop⟩]
    have HR := hide hr'
    have HN := hide hn
    have CK := hide (fun g pb w hs hp hq => eachVals_any a L n cap op pb g w hn hm hs hop hp hq)
    clear hr hr' hg hs hst hlx hop hn
    go_enter Try.func22, Try.ntmps22
    go_wp2_with fail
    refine (CG.out _ (HS.out.below ((Below.refl _ _).alloc (Nat.le_refl _) _))).mono ?_
    rintro e w1 ⟨rfl, hb1⟩
    have c0 : w1.cell? ⟨w.heap.size, 0, none⟩ = some (.int .i64 op) := (hb1.cell (p := ⟨w.heap.size, 0, none⟩) (by simp)).trans (by simp)
    have B1 := hide (((Below.refl w.heap.size w).alloc (Nat.le_refl _) (.cells #[.int .i64 op] 3 (0, 0))).trans (hb1.mono (by simp)))
    clear hb1
    go_wp2_with fail
    have BA := hide ((Below.refl w1.heap.size w1).alloc (Nat.le_refl _) (.cells #[.slice a n cap] 25))
    refine (CK.out w1.heap.size w.heap.size _ (HS.out.below (B1.out.trans (BA.out.mono B1.out.size))) ((BA.out.cell (p := ⟨w.heap.size, 0, none⟩) (blk_lt c0)).trans c0) (by simp)).mono ?_
    rintro e w2 ⟨v, rfl, ho, hb⟩
    have HO := hide (own_baseR ho (Nat.le_trans B1.out.size BA.out.size))
    have B2 := hide ((B1.out.trans (BA.out.mono B1.out.size)).trans (hb.mono (Nat.le_trans B1.out.size BA.out.size)))
    clear ho hb
    go_wp2
    go_ret2
    exact ⟨v, by rw [HR.out]; rfl, by rw [HR.out]; simp only [Option.getD_some, List.length_map]; rw [HN.out, ← vals_ints]; exact HO.out, B2.out⟩
  · have CG := hide (fun w hs => implGoodTotals_any a L n cap w hn hm hs hst hlx false (by simp [hg]))
    have hr' : r = none := by rw [hr]; unfold valRes; rw [if_neg (fun h => hg h.1)]
    have HR := hide hr'
    clear hr hr' hg hs hst hlx hn
    go_enter Try.func22, Try.ntmps22
    go_wp2_with fail
    refine (CG.out _ (HS.out.below ((Below.refl _ _).alloc (Nat.le_refl _) _))).mono ?_
    rintro e w1 ⟨rfl, hb1⟩
    have c0 : w1.cell? ⟨w.heap.size, 0, none⟩ = some (.int .i64 op) := (hb1.cell (p := ⟨w.heap.size, 0, none⟩) (by simp)).trans (by simp)
    have B1 := hide (((Below.refl w.heap.size w).alloc (Nat.le_refl _) (.cells #[.int .i64 op] 3 (0, 0))).trans (hb1.mono (by simp)))
    clear hb1
    go_wp2
    go_ret2
    exact ⟨_, by rw [HR.out]; rfl, by rw [HR.out]; exact World.ownsRow_nil _ _ _ _, B1.out⟩
end Go.Proofs.Ytohcjafklfemfam.L14T

namespace Go.Proofs.Ytohcjafklfemfam.SrtI
open Go.RowKit L1 Srt
set_option linter.unusedVariables false

set_option maxRecDepth 100000 in
set_option maxHeartbeats 1000000 in
theorem sort_none (w : World) (fv : Value) : Calls Try.prog 72 #[.slice none 0 0, fv] w fun e w' => e = .returned (.tuple #[]) ∧ Below w.heap.size w w' := by
  have hi : ∀ w, Calls Try.prog 96 #[.slice none 0 0, .int .i64 0, .int .i64 0, fv] w fun e w' => e = .returned (.tuple #[]) ∧ w = w' := fun w => by
    go_enter Try.func96, Try.ntmps96
    go_wp2
    go_loop [8] (fun k => k = .int .i64 1) (fun _ => 0)
    case atStart => rfl
    case round =>
      subst hrel
      go_wp2
      go_end0
      exact ⟨rfl, rfl⟩
  have HI := hide hi
  clear hi
  have hst : ∀ w, Calls Try.prog 87 #[.slice none 0 0, .int .i64 0, fv] w fun e w' => e = .returned (.tuple #[]) ∧ w = w' := fun w => by
    go_enter Try.func87, Try.ntmps87
    go_wp2
    go_loop [7, 8] (fun a b => a = .int .i64 0 ∧ b = .int .i64 20) (fun _ _ => 0)
    case atStart => exact ⟨rfl, rfl⟩
    case round =>
      obtain ⟨rfl, rfl⟩ := hrel
      go_wp2_with fail
      refine (HI.out _).mono ?_
      rintro e w1 ⟨rfl, rfl⟩
      go_wp2
      go_loop [6] (fun k => k = .int .i64 20) (fun _ => 0)
      case atStart => rfl
      case round =>
        subst hrel
        go_wp2
        go_end0
        exact ⟨rfl, rfl⟩
  have HST := hide hst
  clear hst
  go_enter Try.func72, Try.ntmps72
  go_wp2_with fail
  refine (HST.out _).mono ?_
  rintro e w1 ⟨rfl, rfl⟩
  go_wp2
  go_end0
  exact ⟨rfl, Below.refl _ _⟩
set_option maxRecDepth 100000 in
set_option maxHeartbeats 4000000 in
theorem greatest_any (v : List Int) (a : Option Addr) (n cap : Nat) (w : World) (hn : v.length = n) (hm : n ≤ 1048576) (hs : Sl w a v) :
    Calls Try.prog 54 #[.slice a n cap] w fun e w' => ∃ u L', e = .returned u ∧ w'.ownsRow w.heap.size 3 1 u n (L'.map (Value.int .i64)) ∧ IsTop v L' ∧ Below w.heap.size w w' := by
  obtain ⟨i1, hi1, hy0, hy1, hy2⟩ := info_parts info_int
  have HS := hide hs
  have HN := hide hn
  clear hs hn
  have hX := hide (L8.blk_new w (.cells #[.slice a n cap] 37 (0, 0)))
  go_enter Try.func54, Try.ntmps54
  have HBX : (w.alloc (.cells #[.slice a n cap] 37 (0, 0))).cell? ⟨w.heap.size, 0, none⟩ = some (.slice a n cap) := by simp
  go_wp2
  go_loopw [3, 7] (fun ot i wr => ∃ k : Nat, k ≤ n ∧ i = .int .i64 k ∧ wr.ownsRow (w.heap.size + 1) 3 1 ot k ((upto k).map (Value.int .i64)) ∧ Below (w.heap.size + 1) (w.alloc (.cells #[.slice a n cap] 37 (0, 0))) wr) (fun _ i _ => n - (intOf i).toNat)
  case atStart => exact ⟨0, Nat.zero_le _, rfl, World.ownsRow_nil _ _ _ _, Below.refl _ _⟩
  case round =>
    obtain ⟨k, hk, rfl, hown, hbel⟩ := hrel
    obtain ⟨oa, ocap, rfl⟩ := L14T.own_shapeV hown
    by_cases hlt : k < n
    · have hltI : (k : Int) < (n : Int) := by omega
      have HROW := hide hown
      have hsz0 := hbel.size
      have hsz : w.heap.size + 1 ≤ wr.heap.size := by simpa using hsz0
      have B0 := hide hbel
      clear hown hbel HBX hsz0
      go_wp2_with (first
        | (at_builtin; refine wpList_append_own _ rfl _ _ 37 rfl (w.heap.size + 1) 3 i1 (.int .i64 0) 1 8 Try.underlying37 hi1 hy0 hy1 hy2 rfl (by decide) _ _ _ rfl (HROW.out.alloc _) ⟨wr.heap.size, 0, none⟩ 1 1 [.int .i64 (k : Int)] rfl rfl (L14T.cell_oneV _ _ _) (by intro u hu; simp at hu; subst hu; rfl) (by unfold maxLen; omega) (by omega) (by simp; omega) ?_)
        | go_in)
      intro v6 w6 hown6 hgrow6 _
      have hb6 := B0.out.trans (((Below.refl _ _).alloc hsz _).grown hgrow6 (by simp; omega) (fun g hg => (HROW.out.lt g hg).1))
      have hown7 := hide (show w6.ownsRow (w.heap.size + 1) 3 1 v6 (k + 1) ((upto (k + 1)).map (Value.int .i64)) by rw [upto_succ, List.map_append]; exact hown6)
      clear hown6 hgrow6
      go_wp2
      go_roundw
      case rel => exact ⟨k + 1, by omega, by go_num, hown7.out, hb6⟩
      case measure => simp [intOf]; omega
    · obtain rfl : k = n := by omega
      have hltI : ¬ (k : Int) < (k : Int) := by omega
      have HROW := hide hown
      have hbx := hide ((hbel.cell (p := ⟨w.heap.size, 0, none⟩) (by show w.heap.size < w.heap.size + 1; omega)).trans HBX)
      have BW := hide (((Below.refl w.heap.size w).alloc (Nat.le_refl _) (.cells #[.slice a k cap] 37 (0, 0))).trans (hbel.mono (show w.heap.size ≤ w.heap.size + 1 by omega)))
      clear hown hbel HBX
      rcases HROW.out.2 with ⟨e1, h0⟩ | ⟨g, cap2, cur, e1, hbg, hg, r⟩
      · cases e1
        have C := hide (fun fv => sort_none wr fv)
        clear HROW
        go_wp2_with fail
        refine (C.out _).mono ?_
        rintro e w2 ⟨rfl, hb⟩
        have B2 := hide (BW.out.trans (hb.mono BW.out.size))
        clear hb
        go_wp2
        go_ret
        exact ⟨_, [], rfl, World.ownsRow_nil _ _ _ _, ⟨by rw [HN.out]; rfl, fun t ht => by simp at ht, fun x h0 h1 => by rw [HN.out] at h1; omega, fun i j h0 h1 h2 => by simp at h2⟩, B2.out⟩
      · cases e1
        have HRI : RI wr wr (w.heap.size + 1) g ocap k (upto k) := ⟨upto_len k, HROW.out, Below.refl _ _⟩
        have C := hide (sortStable_any wr (w.heap.size + 1) g ocap k ⟨w.heap.size, 0, none⟩ (ltv v) Int.toNat (fun x => 0 ≤ x ∧ x < (k : Int)) (ordv v) hm
          (fun wx x y hb hx hy htag => (clo_any v a k cap w.heap.size x y wx HN.out (HS.out.below (BW.out.trans (hb.mono (by omega)))) ((hb.cell (p := ⟨w.heap.size, 0, none⟩) (by show w.heap.size < g; omega)).trans hbx.out) hx.1 hx.2 hy.1 hy.2).mono (fun e w' ⟨c, h1, h2, h3⟩ => ⟨c, h1, by rw [h2]; unfold ltv; omega, h3⟩))
          wr (upto k) HRI (fun t ht => by rw [upto_get _ _ ht]; omega) (fun i j h1 h2 => by rw [upto_get _ _ (by omega), upto_get _ _ h2]; omega))
        have hgw : w.heap.size ≤ g := by omega
        clear hg r hbg HRI
        go_wp2_with fail
        refine C.out.mono ?_
        rintro e w2 ⟨rfl, L2, h2, p2, s2⟩
        have H2 := hide (And.intro h2 (And.intro p2 s2))
        clear h2 p2 s2
        go_wp2
        go_ret
        exact ⟨_, L2, rfl, L14T.own_baseR H2.out.1.row (by omega), isTop_of (by rw [HN.out]; exact H2.out.1.len) (by rw [HN.out]; exact H2.out.2.1) (by rw [HN.out]; exact H2.out.2.2), BW.out.trans (H2.out.1.bel.mono hgw)⟩
end Go.Proofs.Ytohcjafklfemfam.SrtI

namespace Go.Proofs.Ytohcjafklfemfam.SrtI
open Go.RowKit L1 Srt
set_option linter.unusedVariables false

theorem own_emptyC (w : World) (base : Nat) (hb : base ≤ w.heap.size) : (w.alloc (.cells #[] 3)).ownsRow base 3 1 (.slice (some ⟨w.heap.size, 0, none⟩) 0 0) 0 [] :=
  ⟨rfl, .inr ⟨w.heap.size, 0, #[], rfl, hb, by show (w.heap.push _)[w.heap.size]? = _; simp, Nat.le_refl _, by unfold maxLen; omega, rfl, rfl⟩⟩
theorem int_takeC {w : World} {g : Nat} {xs : List Int} {base n cap : Nat} (h : w.ownsRow base 3 1 (.slice (some ⟨g, 0, none⟩) n cap) n (xs.map (Value.int .i64))) (k : Nat) : ∀ j u, ((xs.take k).map (Value.int .i64))[j]? = some u → w.cell? ((⟨g, 0, none⟩ : Addr).add j) = some u := fun j u hu => by
  refine h.cells (g := g) rfl j u ?_
  rw [List.getElem?_map] at hu ⊢
  rw [List.getElem?_take] at hu
  split at hu
  · exact hu
  · simp at hu
theorem ints_oneC (xs : List Int) : ∀ u ∈ xs.map (Value.int .i64), u.oneCell' = true := fun u hu => by
  obtain ⟨x, _, rfl⟩ := List.mem_map.1 hu
  rfl
set_option maxRecDepth 100000 in
set_option maxHeartbeats 1000000 in
theorem cloneI_any (g : Nat) (l : List Int) (n cap : Nat) (w : World) (hn : l.length = n) (hm : n ≤ 1048576) (hc : ∀ j u, (l.map (Value.int .i64))[j]? = some u → w.cell? ((⟨g, 0, none⟩ : Addr).add j) = some u) (hg : g < w.heap.size) :
    Calls Try.prog 55 #[.slice (some ⟨g, 0, none⟩) n cap] w fun e w' => ∃ v, e = .returned v ∧ w'.ownsRow w.heap.size 3 1 v n (l.map (Value.int .i64)) ∧ Below w.heap.size w w' := by
  obtain ⟨i1, hi1, hy0, hy1, hy2⟩ := info_parts info_int
  have hnil : ∀ w, (binOp .eql 37 (.slice (some ⟨g, 0, none⟩) n cap) (.slice none 0 0)).run Try.prog w = .ok (.bool false) w := fun w => Lib.run_eql_slice_nil w _ _ _ _ _ _ _ Try.underlying37
  have HCC := hide (fun j u h => (((Below.refl w.heap.size w).alloc (Nat.le_refl _) (.cells #[] 3)).cell (p := (⟨g, 0, none⟩ : Addr).add j) (by unfold Addr.add; split <;> exact hg)).trans (hc j u h))
  have HN := hide (show (l.map (Value.int .i64)).length = n * 1 by simp; exact hn)
  clear hc hn
  go_enter Try.func55, Try.ntmps55
  go_wp2_with (first
    | (at_builtin; refine wpList_append_own _ rfl _ _ 37 rfl w.heap.size 3 i1 (.int .i64 0) 1 8 Try.underlying37 hi1 hy0 hy1 hy2 rfl (by decide) (.slice (some ⟨w.heap.size, 0, none⟩) 0 0) 0 [] rfl (own_emptyC w _ (Nat.le_refl _)) ⟨g, 0, none⟩ n cap (l.map (Value.int .i64)) rfl HN.out HCC.out (ints_oneC l) (by unfold maxLen; omega) (by omega) (by simp) ?_)
    | go_in)
  intro v3 w3 hown3 hgrow3 hnil3
  have hb3 : Below w.heap.size w w3 := ((Below.refl _ _).alloc (Nat.le_refl _) _).grown hgrow3 (by simp) (fun g hg => by cases hg; exact Nat.le_refl _)
  try simp only [List.nil_append, Nat.zero_add] at hown3
  have O3 := hide hown3
  have B3 := hide hb3
  clear hown3 hgrow3 hnil3 hb3
  go_wp2
  go_ret
  exact ⟨_, rfl, O3.out, B3.out⟩
set_option maxRecDepth 100000 in
set_option maxHeartbeats 1000000 in
theorem cloneI_none (w : World) : Calls Try.prog 55 #[.slice none 0 0] w fun e w' => e = .returned (.slice none 0 0) ∧ w = w' := by
  have hnil : ∀ w, (binOp .eql 37 (.slice none 0 0) (.slice none 0 0)).run Try.prog w = .ok (.bool true) w := fun w => Lib.run_eql_slice_nil w _ _ _ _ _ _ _ Try.underlying37
  go_enter Try.func55, Try.ntmps55
  go_wp2
  go_ret
  exact ⟨rfl, rfl⟩
open Classical in
set_option maxRecDepth 100000 in
set_option maxHeartbeats 4000000 in
theorem implTopOf_any (a : Option Addr) (L : List L14T.Rw) (n cap : Nat) (op many : Int) (w : World) (hn : L.length = n) (hm : n ≤ 1048576) (hs : L14T.SlR w a L) (hst : L14T.TxR L) (hlx : ∀ j, j < L.length → (L14T.gr L j).l.length ≤ 1048576) (r : Option (List Int)) (hr : r = topRes L op many) :
    Calls Try.prog 27 #[.slice a n cap, .int .i64 op, .int .i64 many] w fun e w' => L14T.RetI w r e w' := by
  by_cases hg : L14T.GoodT L ∧ L14T.okOp op
  · have hv : L14T.valRes L op = some (L.map (L14T.valOf op)) := by unfold L14T.valRes; rw [if_pos hg]
    have hg40 := hg.1.1
    have CV := hide (L14T.implValuesOf_any a L n cap op w hn hm hs hst hlx (some (L.map (L14T.valOf op))) hv.symm)
    by_cases h1 : many < 0
    · have HR := hide (show r = none by rw [hr]; exact topRes_none (fun h => by omega))
      clear hr hg hs hst hlx hn hv
      go_enter Try.func27, Try.ntmps27
      go_wp2_with fail
      refine CV.out.mono ?_
      rintro e w1 ⟨v, rfl, ho, hb⟩
      obtain ⟨va, vc, rfl⟩ := L14T.own_shapeV ho
      have B1 := hide hb
      clear ho hb
      go_wp2
      go_ret2
      exact ⟨_, by rw [HR.out]; rfl, by rw [HR.out]; exact World.ownsRow_nil _ _ _ _, B1.out⟩
    by_cases h4 : 40 < many
    · have HR := hide (show r = none by rw [hr]; exact topRes_none (fun h => by omega))
      clear hr hg hs hst hlx hn hv
      go_enter Try.func27, Try.ntmps27
      go_wp2_with fail
      refine CV.out.mono ?_
      rintro e w1 ⟨v, rfl, ho, hb⟩
      obtain ⟨va, vc, rfl⟩ := L14T.own_shapeV ho
      have B1 := hide hb
      clear ho hb
      go_wp2
      go_ret2
      exact ⟨_, by rw [HR.out]; rfl, by rw [HR.out]; exact World.ownsRow_nil _ _ _ _, B1.out⟩
    obtain ⟨v, hvv⟩ : ∃ v, v = L.map (L14T.valOf op) := ⟨_, rfl⟩
    have hvl : v.length = n := by rw [hvv]; simp [hn]
    have HR := hide (fun l (hl : IsTop v l) => (by rw [hr]; exact topRes_some ⟨hg, by omega, by omega⟩ (by rw [← hvv]; exact hl) : r = some (l.take many.toNat)))
    rw [← hvv] at CV
    obtain ⟨k, hk⟩ : ∃ k, k = min many.toNat n := ⟨_, rfl⟩
    have hmin : min many (n : Int) = (k : Int) := by omega
    have hmin2 : (if (n : Int) < many then (n : Int) else many) = (k : Int) := by split <;> omega
    have hmin3 : (if many < (n : Int) then many else (n : Int)) = (k : Int) := by split <;> omega
    have hkn : k ≤ n := by omega
    have HK := hide hk
    have HVL := hide hvl
    have HN40 : n ≤ 40 := by omega
    clear hr hg hs hst hlx hn hv hvv hk hvl hg40
    go_enter Try.func27, Try.ntmps27
    go_wp2_with fail
    refine CV.out.mono ?_
    rintro e w1 ⟨vv, rfl, ho, hb⟩
    have hof := ho
    simp only [Option.getD_some] at hof
    obtain ⟨va, vc, rfl, hsl, _⟩ := own_form hof
    have CG := hide (greatest_any v va n vc w1 HVL.out (by omega) hsl)
    have B1 := hide hb
    rw [show v.length = n from HVL.out]
    clear ho hb hof hsl
    go_wp2_with fail
    refine CG.out.mono ?_
    rintro e w2 ⟨u, L', rfl, ho2, htop, hb2⟩
    have HR2 := hide (HR.out L' htop)
    have HL' := hide htop.len
    have B2 := hide (B1.out.trans (hb2.mono B1.out.size))
    have O2 := hide ho2
    clear htop hb2 ho2
    rcases O2.out.2 with ⟨e1, h0⟩ | ⟨g, cap2, cur, e1, hbg, hgg, q⟩
    · cases e1
      have hk0 : k = 0 := by omega
      have C := hide (cloneI_none)
      have hm0 : min many 0 = 0 := by omega
      have HN0 := hide h0
      subst hk0
      go_wp2_with fail
      refine (C.out _).mono ?_
      rintro e w3 ⟨rfl, rfl⟩
      go_wp2
      go_ret2
      have hL0 : L' = [] := List.eq_nil_of_length_eq_zero (by rw [HL'.out, HVL.out]; exact HN0.out)
      exact ⟨_, by rw [HR2.out]; rfl, by rw [HR2.out, hL0]; simp only [Option.getD_some, List.take_nil]; exact World.ownsRow_nil _ _ _ _, B2.out⟩
    · cases e1
      have htl : (L'.take k).length = k := by rw [List.length_take, HL'.out, HVL.out]; omega
      obtain ⟨c2, hc2⟩ : ∃ c2, w2.ownsRow w1.heap.size 3 1 (.slice (some ⟨g, 0, none⟩) n c2) n (L'.map (Value.int .i64)) := ⟨_, O2.out⟩
      have C := hide (fun cp => cloneI_any g (L'.take k) k cp w2 htl (by omega) (int_takeC O2.out k) (O2.out.lt g rfl).2)
      have HTL := hide htl
      have HTK : Hid (L'.take many.toNat = L'.take k) := by
        show _ = _
        rw [HK.out]
        by_cases e : many.toNat ≤ n
        · rw [Nat.min_eq_left e]
        · rw [Nat.min_eq_right (by omega), List.take_of_length_le (by rw [HL'.out, HVL.out]; omega), List.take_of_length_le (by rw [HL'.out, HVL.out]; exact Nat.le_refl _)]
      have hcap := q.1
      have hkc : (k : Int) ≤ (cap2 : Int) := by omega
      have hk0 : (0 : Int) ≤ (k : Int) := by omega
      have hkn2 : (k : Int) ≤ (n : Int) := by omega
      clear hgg q hbg htl hc2 O2
      go_wp2_with fail
      refine (C.out _).mono ?_
      rintro e w3 ⟨u, rfl, ho3, hb3⟩
      have O3 := hide (L14T.own_baseR ho3 B2.out.size)
      have B3 := hide (B2.out.trans (hb3.mono B2.out.size))
      clear ho3 hb3
      go_wp2
      go_ret2
      exact ⟨_, by rw [HR2.out]; rfl, by rw [HR2.out, HTK.out]; simp only [Option.getD_some]; rw [HTL.out]; exact O3.out, B3.out⟩
  · have hv : L14T.valRes L op = none := by unfold L14T.valRes; rw [if_neg hg]
    have CV := hide (L14T.implValuesOf_any a L n cap op w hn hm hs hst hlx none hv.symm)
    have HR := hide (show r = none by rw [hr]; exact topRes_none (fun h => hg h.1))
    clear hr hg hs hst hlx hn hv
    go_enter Try.func27, Try.ntmps27
    go_wp2_with fail
    refine CV.out.mono ?_
    rintro e w1 ⟨v, rfl, ho, hb⟩
    obtain ⟨va, vc, rfl⟩ := L14T.own_shapeV ho
    have B1 := hide hb
    clear ho hb
    go_wp2
    go_ret2
    exact ⟨_, by rw [HR.out]; rfl, by rw [HR.out]; exact World.ownsRow_nil _ _ _ _, B1.out⟩
end Go.Proofs.Ytohcjafklfemfam.SrtI

namespace Go.Proofs.Ytohcjafklfemfam.SrtI
open Go.RowKit L1 Srt
set_option linter.unusedVariables false

/-- The first j places, in that order. -/
structure IsTopN (v : List Int) (j : Nat) (L : List Int) : Prop where
  len : L.length = j
  rng : ∀ t, t < L.length → 0 ≤ gi L t ∧ gi L t < (j : Int)
  all : ∀ x : Int, 0 ≤ x → x < (j : Int) → ∃ t, t < L.length ∧ gi L t = x
  srt : So (ltv v) (gi L) 0 L.length
theorem IsTopN.nil (v : List Int) : IsTopN v 0 [] := ⟨rfl, fun t ht => by simp at ht, fun x h0 h1 => by omega, fun i j h0 h1 h2 => by simp at h2⟩
theorem IsTopN.top {v : List Int} {j : Nat} {L : List Int} (h : IsTopN v j L) (hj : j = v.length) : IsTop v L := by
  subst hj
  exact ⟨h.len, h.rng, h.all, h.srt⟩
def insI (L : List Int) (q : Nat) (x : Int) : List Int := L.take q ++ x :: L.drop q
theorem insI_len (L : List Int) (q : Nat) (x : Int) (h : q ≤ L.length) : (insI L q x).length = L.length + 1 := by simp [insI]; omega
theorem insI_lt (L : List Int) (q : Nat) (x : Int) (h : q ≤ L.length) (t : Nat) (ht : t < q) : gi (insI L q x) t = gi L t := by
  simp only [gi, insI, List.getD]
  rw [List.getElem?_append_left (by simp; omega), List.getElem?_take_of_lt ht]
theorem insI_at (L : List Int) (q : Nat) (x : Int) (h : q ≤ L.length) : gi (insI L q x) q = x := by
  simp only [gi, insI, List.getD]
  rw [List.getElem?_append_right (by simp; omega)]
  simp [Nat.min_eq_left h]
theorem insI_gt (L : List Int) (q : Nat) (x : Int) (h : q ≤ L.length) (t : Nat) (ht : q < t) : gi (insI L q x) t = gi L (t - 1) := by
  simp only [gi, insI, List.getD]
  rw [List.getElem?_append_right (by simp; omega)]
  obtain ⟨r, hr⟩ : ∃ r, t = q + 1 + r := ⟨t - (q + 1), by omega⟩
  subst hr
  have e : q + 1 + r - (L.take q).length = r + 1 := by simp [Nat.min_eq_left h]; omega
  have e2 : q + 1 + r - 1 = q + r := by omega
  rw [e, e2, List.getElem?_cons_succ, List.getElem?_drop]
theorem IsTopN.ins {v : List Int} {j : Nat} {L : List Int} (h : IsTopN v j L) (q : Nat) (hq : q ≤ j) (h1 : ∀ t, t < q → vat v (j : Int) ≤ vat v (gi L t)) (h2 : q < j → vat v (gi L q) < vat v (j : Int)) : IsTopN v (j + 1) (insI L q (j : Int)) := by
  have hl := h.len
  have hqL : q ≤ L.length := by omega
  have hil := insI_len L q (j : Int) hqL
  have hlt := insI_lt L q (j : Int) hqL
  have hat := insI_at L q (j : Int) hqL
  have hgt := insI_gt L q (j : Int) hqL
  have low : ∀ t, q ≤ t → t < j → vat v (gi L t) < vat v (j : Int) := fun t ht htj => by
    have a := h2 (by omega)
    rcases Nat.eq_or_lt_of_le ht with e | e
    · rw [← e]; exact a
    · have b := h.srt q t (Nat.zero_le _) e (by omega)
      unfold ltv at b
      omega
  refine ⟨by omega, fun t ht => ?_, fun x x0 x1 => ?_, fun s t s0 hst ht => ?_⟩
  · rcases Nat.lt_trichotomy t q with e | e | e
    · rw [hlt t e]; have := h.rng t (by omega); omega
    · rw [e, hat]; omega
    · rw [hgt t e]; have := h.rng (t - 1) (by omega); omega
  · by_cases e : x = (j : Int)
    · exact ⟨q, by omega, by rw [hat, e]⟩
    · obtain ⟨t, ht, et⟩ := h.all x x0 (by omega)
      by_cases e2 : t < q
      · exact ⟨t, by omega, by rw [hlt t e2, et]⟩
      · exact ⟨t + 1, by omega, by rw [hgt (t + 1) (by omega), Nat.add_sub_cancel, et]⟩
  · rcases Nat.lt_trichotomy t q with e | e | e
    · rw [hlt t e, hlt s (by omega)]
      exact h.srt s t s0 hst (by omega)
    · rw [e, hat, hlt s (by omega)]
      have a := h1 s (by omega)
      have b := h.rng s (by omega)
      unfold ltv
      omega
    · rw [hgt t e]
      rcases Nat.lt_trichotomy s q with e2 | e2 | e2
      · rw [hlt s e2]
        exact h.srt s (t - 1) s0 (by omega) (by omega)
      · rw [e2, hat]
        have a := low (t - 1) (by omega) (by omega)
        unfold ltv
        omega
      · rw [hgt s e2]
        exact h.srt (s - 1) (t - 1) (Nat.zero_le _) (by omega) (by omega)
end Go.Proofs.Ytohcjafklfemfam.SrtI

namespace Go.Proofs.Ytohcjafklfemfam.SrtI
open Go.RowKit L1 Srt
set_option linter.unusedVariables false

theorem run_build0I (w : World) : (Instr.buildSlice 37 0 #[]).run Try.prog w = .ok (.slice (some ⟨w.heap.size, 0, none⟩) 0 0) (w.alloc (.cells #[] 3)) := by
  obtain ⟨i0, hi, hz0, hz1, hz2⟩ := info_parts info_int
  simp [Instr.buildSlice, run_underlying Try.underlying37, sizeOf, typeInfo, hi, newRow, Instr.fill, Array.range_zero']
/-- A list without ints, made. -/
theorem wpList_build0I {ops : Array Oper} {rest : List Oper} {o : Oper} {a : Act} {Q : Exit → Act → World → Prop} {w : World} (hg : o.guard = none) (ho : o.op = .buildSlice 37 0 #[])
    (h : wpList Try.prog ops Q rest (a.put o.dst (.slice (some ⟨w.heap.size, 0, none⟩) 0 0)) (w.alloc (.cells #[] 3))) : wpList Try.prog ops Q (o :: rest) a w :=
  wpList_plain hg fun _ hK => by
    unfold Oper.wp execOp
    have e : (#[] : Array (Nat × Operand)).map (fun x => (x.1, a.eval x.2)) = #[] := by simp
    simp only [ho, Sem.run_bind, e, run_build0I, Result.andThen_ok]
    exact hK _ _ h
theorem app_noneI (t ty : TypeId) (ht : Try.prog.underlying t = some (.slice 3)) (base ax : Option Addr) (n cap c : Nat) (h : n ≤ cap) (w : World) :
    (Builtin.append_ #[t, t] ty #[.slice base n cap, .slice ax 0 c]).run Try.prog w = .ok (.slice base n cap) w := by
  obtain ⟨i1, hi1, _, _, _⟩ := info_parts info_int
  refine run_append_nothing w t t ty 3 i1 ht hi1 base n cap h _ ?_
  cases ax with
  | none => exact Src.ofNil _ ht c
  | some x => exact Src.ofSlice _ ht x 0 c [] (by simp) (fun j u hu => by simp at hu) (fun u hu => by simp at hu)
theorem own_capI {w : World} {base c n : Nat} {t : TypeId} {v : Value} {ys : List Value} (h : w.ownsRow base t c v n ys) : ∃ a cap, v = .slice a n cap ∧ n ≤ cap := by
  rcases h.2 with ⟨rfl, h0⟩ | ⟨g, cap, cur, rfl, _, _, r, _⟩
  · subst h0; exact ⟨none, 0, rfl, Nat.le_refl _⟩
  · exact ⟨_, cap, rfl, r⟩
/-- 'append' of ints behind ints of the call's own: none, or some. -/
theorem wpList_append_intsC {ops : Array Oper} {rest : List Oper} {o : Oper} {a : Act} {Q : Exit → Act → World → Prop} {w : World} (hgd : o.guard = none) (s x : Operand)
    (ho : o.op = .call { callee := .builtin .append, args := #[s, x], argTypes := #[37, 37] })
    (base : Nat) (v : Value) (nv : Nat) (ys : List Value) (hs : a.eval s = v) (hown : w.ownsRow base 3 1 v nv ys)
    (ax : Option Addr) (m c : Nat) (hx : a.eval x = .slice ax m c) (zs : List Value) (hz : zs.length = m * 1) (hcells : 0 < m → ∃ ad, ax = some ad ∧ ∀ j u, zs[j]? = some u → w.cell? (ad.add j) = some u) (h1 : ∀ u ∈ zs, u.oneCell' = true)
    (hsm : nv + m ≤ 1048576) (hbase : base ≤ w.heap.size)
    (h : ∀ v' w', w'.ownsRow base 3 1 v' (nv + m) (ys ++ zs) → w.grownBy w' v.ownBlock → (v'.ownBlock = v.ownBlock ∨ v'.ownBlock = some w.heap.size) → wpList Try.prog ops Q rest (a.put o.dst v') w') : wpList Try.prog ops Q (o :: rest) a w := by
  by_cases h0 : m = 0
  · subst h0
    have hz0 : zs = [] := List.eq_nil_of_length_eq_zero (by omega)
    subst hz0
    obtain ⟨av, cv, rfl, hle⟩ := own_capI hown
    refine wpList_plain hgd fun K hK => ?_
    unfold Oper.wp execOp
    simp only [ho, resolve, invoke, builtin, Sem.run_bind, Sem.run_pure, Result.andThen_ok, List.map_toArray, List.map_cons, List.map_nil, hs, hx, app_noneI 37 o.type Try.underlying37 av ax nv cv c hle w]
    exact hK _ _ (h (.slice av nv cv) w (by rw [List.append_nil]; exact hown) (World.grownBy.refl _ _) (.inl rfl))
  · obtain ⟨i0, hi, hz0, hz1, hz2⟩ := info_parts info_int
    obtain ⟨ad, rfl, hc⟩ := hcells (by omega)
    refine wpList_append_own_at w hgd s x 37 ho base 3 i0 (.int .i64 0) 1 8 Try.underlying37 hi hz0 hz1 hz2 rfl (by decide) v nv ys hs hown ad m c zs hx hz hc h1 (by unfold maxLen; omega) (by omega) hbase ?_
    intro v' w' h1 h2 _ h4
    exact h v' w' h1 h2 h4
/-- The cells of some ints of the call's own. -/
theorem int_cellsC {w : World} {base g n cap : Nat} {M : List Int} (h : w.ownsRow base 3 1 (.slice (some ⟨g, 0, none⟩) n cap) n (M.map (Value.int .i64))) (k m : Nat) : ∀ j u, (((M.drop k).take m).map (Value.int .i64))[j]? = some u → w.cell? ((⟨g, k, none⟩ : Addr).add j) = some u := by
  intro j u hu
  have hj : j < m := by
    by_cases hj : j < m
    · exact hj
    · rw [List.getElem?_eq_none (by rw [List.length_map, List.length_take]; omega)] at hu; cases hu
  have e : (M.map (Value.int .i64))[k + j]? = some u := by
    rw [List.getElem?_map] at hu ⊢
    rw [List.getElem?_take_of_lt hj, List.getElem?_drop] at hu
    exact hu
  have := h.cells (g := g) rfl (k + j) _ e
  rw [addr_add] at this
  rw [L14T.add_at]
  exact this
end Go.Proofs.Ytohcjafklfemfam.SrtI

namespace Go.Proofs.Ytohcjafklfemfam.Own
open Go.RowKit L1
set_option linter.unusedVariables false

theorem bool_noT {b : Bool} {p : Prop} (h : b = true ↔ p) (hp : ¬ p) : b = false := by
  cases b with
  | false => rfl
  | true => exact absurd (h.1 rfl) hp
set_option maxRecDepth 100000 in
set_option maxHeartbeats 400000 in
theorem l1In_any (x lo hi : Int) (w : World) (b : Bool) (hb : b = true ↔ lo ≤ x ∧ x ≤ hi) :
    Calls Try.prog 35 #[.int .i64 x, .int .i64 lo, .int .i64 hi] w fun e w' => e = .returned (.bool b) ∧ w = w' := by
  by_cases h1 : lo ≤ x
  · by_cases h2 : x ≤ hi
    · obtain rfl : b = true := hb.2 ⟨h1, h2⟩
      clear hb
      go_enter Try.func35, Try.ntmps35
      go_wp2
      go_ret
      exact ⟨rfl, rfl⟩
    · obtain rfl : b = false := bool_noT hb (fun h => h2 h.2)
      clear hb
      go_enter Try.func35, Try.ntmps35
      go_wp2
      go_ret
      exact ⟨rfl, rfl⟩
  · obtain rfl : b = false := bool_noT hb (fun h => h1 h.1)
    clear hb
    go_enter Try.func35, Try.ntmps35
    go_wp2
    go_ret
    exact ⟨rfl, rfl⟩

end Go.Proofs.Ytohcjafklfemfam.Own
