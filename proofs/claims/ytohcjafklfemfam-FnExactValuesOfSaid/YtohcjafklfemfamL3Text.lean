/-
  Contract: impl.LabelsText: the text of good labels, and true; else no text and false.
-/
import Derived.Test.YtohcjafklfemfamL3STx
import Derived.Test.YtohcjafklfemfamL3Join
import Derived.Test.YtohcjafklfemfamL3Good
import Derived.Maps.AppendAt
namespace Go.Proofs.Ytohcjafklfemfam.L3
open Go.RowKit L1
set_option linter.unusedVariables false

theorem info_str : (Try.prog.info? 9).map (fun i => (i.zero, i.size, i.bytes)) = some (some (.string ByteArray.empty), 1, 16) := by kernel_rfl
theorem own_shape {w : World} {base n c : Nat} {t : TypeId} {v : Value} {xs : List Value} (h : w.ownsRow base t c v n xs) : ∃ a cap, v = .slice a n cap := by
  rcases h.2 with ⟨hv, h0⟩ | ⟨g, cap, cur, hv, _⟩
  · exact ⟨none, 0, by rw [hv, h0]⟩
  · exact ⟨_, cap, hv⟩
theorem cell_one_new2 (w : World) (o : Obj) (p : Value) (t : TypeId) : ∀ j u, [p][j]? = some u → ((w.alloc o).alloc (.cells #[p] t)).cell? ((⟨w.heap.size + 1, 0, none⟩ : Addr).add j) = some u := by
  intro j u h
  match j, h with
  | 0, h => simp at h; subst h; rw [addr_add]; have : (w.alloc o).heap.size = w.heap.size + 1 := by simp
            rw [← this]; simp
  | j + 1, h => simp at h
theorem row_some {w : World} {base n : Nat} {t : TypeId} {v : Value} {xs : List Value} (h : w.ownsRow base t 1 v n xs) (hn : n ≠ 0) : ∃ g cap, v = .slice (some ⟨g, 0, none⟩) n cap ∧ n ≤ cap ∧ g < w.heap.size ∧ ∀ (j : Nat) u, xs[j]? = some u → w.cell? ⟨g, 0 + j, none⟩ = some u := by
  rcases h.2 with ⟨_, h0⟩ | ⟨g, cap, cur, hv, hb, hg, hc, r⟩
  · exact absurd h0 hn
  · subst hv
    refine ⟨g, cap, rfl, hc, (h.lt g rfl).2, fun j u hu => ?_⟩
    have := h.cells (g := g) rfl j u hu
    rw [addr_add] at this
    simpa using this

open Classical in
set_option maxRecDepth 100000 in
set_option maxHeartbeats 2000000 in
theorem labelsText_any (a : Option Addr) (l : List Lb) (n cap : Nat) (w : World) (hn : l.length = n) (hs : SlL w a l) (hn2 : n ≤ 1048576) (hst : ∀ j, j < l.length → (l.getD j eL).1.size ≤ 9223372036854775807 ∧ (l.getD j eL).2.size ≤ 9223372036854775807) (r : Option ByteArray) (hr : r = txRes l) :
    Calls Try.prog 66 #[.slice a n cap] w fun e w' => e = .returned (.tuple #[.string (r.getD ByteArray.empty), .bool r.isSome]) ∧ Below w.heap.size w w' := by
  by_cases hg : GoodL l
  · have C1 := hide (goodLabels_any a l n cap w hn hs hn2 hst true (by simp [hg]))
    have h6 : n ≤ 6 := by have := hg.1; omega
    have HS := hide hs
    have HN := hide hn
    have HZ := hide (good_sizes hg)
    have hr' : r = some (ltext l) := by rw [hr]; unfold txRes; rw [if_pos hg]
    rw [ltext_join] at hr'
    have hjs := join_size hg
    have HR := hide hr'
    have HJS := hide hjs
    obtain ⟨i1, hi1, hy0, hy1, hy2⟩ := info_parts info_str
    clear hr hr' hg hs hn hst hjs
    go_enter Try.func66, Try.ntmps66
    go_wp2_with fail
    refine C1.out.mono ?_
    rintro e w1 ⟨rfl, hb1⟩
    have B1 := hide hb1
    clear hb1
    go_wp2
    go_loopw [4, 12] (fun ot i wr => ∃ k : Nat, k ≤ n ∧ i = .int .i64 k ∧ wr.ownsRow w.heap.size 9 1 ot k ((l.take k).map fun p => Value.string (lw p)) ∧ Below w.heap.size w wr) (fun _ i _ => n - (intOf i).toNat)
    case atStart => exact ⟨0, Nat.zero_le _, rfl, World.ownsRow_nil _ _ _ _, B1.out⟩
    case round =>
      obtain ⟨k, hk, rfl, hown, hbel⟩ := hrel
      by_cases hlt : k < n
      · obtain ⟨oa, ocap, rfl⟩ := own_shape hown
        obtain ⟨b, off, rfl, hc0, hd0⟩ := HS.out k (by rw [HN.out]; exact hlt)
        have hc := (hbel.cell (p := ⟨b, off + k * 2, none⟩) (blk_lt hc0)).trans hc0
        have hd := (hbel.cell (p := ⟨b, off + k * 2 + 1, none⟩) (blk_lt hd0)).trans hd0
        have hltI : (k : Int) < (n : Int) := by omega
        have hz := HZ.out k (by rw [HN.out]; exact hlt)
        have htk : (l.take (k + 1)).map (fun p => Value.string (lw p)) = (l.take k).map (fun p => Value.string (lw p)) ++ [Value.string (lw (l.getD k eL))] := by
          have hkl : k < l.length := by rw [HN.out]; exact hlt
          have eg : l.getD k eL = l[k] := by simp only [List.getD, List.getElem?_eq_getElem hkl, Option.getD_some]
          rw [List.take_succ_eq_append_getElem hkl, List.map_append, List.map_cons, List.map_nil, eg]
        unfold lw at htk
        obtain ⟨x, hx⟩ : ∃ x, x = (l.getD k eL).1 := ⟨_, rfl⟩
        obtain ⟨y, hy⟩ : ∃ y, y = (l.getD k eL).2 := ⟨_, rfl⟩
        rw [← hx] at hc hz htk
        rw [← hy] at hd hz htk
        have hx8 : (x.size : Int) ≤ 8 := by omega
        have hy8 : (y.size : Int) ≤ 8 := by omega
        obtain ⟨ns, hns⟩ : ∃ ns, ns = (l.take k).map (fun p => Value.string (p.1 ++ ⟨#[61]⟩ ++ p.2)) := ⟨_, rfl⟩
        unfold lw at hown
        rw [← hns] at htk hown
        have HTK := hide htk
        have HROW := hide hown
        have hsz := hbel.size
        have B0 := hide hbel
        clear hc0 hd0 hx hy hns hown hbel htk hz
        go_wp2_with (first
          | (at_builtin; refine wpList_append_own _ rfl _ _ 29 rfl w.heap.size 9 i1 (.string ByteArray.empty) 1 16 Try.underlying29 hi1 hy0 hy1 hy2 rfl (by decide) _ _ _ rfl ((HROW.out.alloc _).alloc _) ⟨wr.heap.size + 1, 0, none⟩ 1 1 [.string (x ++ ⟨#[61]⟩ ++ y)] rfl rfl (cell_one_new2 _ _ _ _) (by intro u hu; simp at hu; subst hu; rfl) (by unfold maxLen; omega) (by omega) (by simp; omega) ?_)
          | go_in)
        intro v6 w6 hown6 hgrow6 _
        have hb6 := B0.out.trans (((Below.refl _ _).alloc hsz _).alloc (by simp; omega) _ |>.grown hgrow6 (by simp; omega) (fun g hg => (HROW.out.lt g hg).1))
        have hown8 : w6.ownsRow w.heap.size 9 1 v6 (k + 1) ((l.take (k + 1)).map fun p => Value.string (lw p)) := by
          unfold lw; rw [HTK.out]; exact hown6
        have hown7 := hide hown8
        clear hown6 hgrow6 hown8
        go_wp2
        go_roundw
        case rel => exact ⟨k + 1, by omega, by go_num, hown7.out, hb6⟩
        case measure => simp [intOf]; omega
      · obtain rfl : k = n := by omega
        have hltI : ¬ (k : Int) < (k : Int) := by omega
        have e1 : l.take k = l := List.take_of_length_le (by rw [HN.out]; exact Nat.le_refl _)
        rw [e1] at hown
        clear e1
        by_cases hk0 : k = 0
        · subst hk0
          obtain ⟨oa, ocap, rfl⟩ := own_shape hown
          have hl0 : l = [] := List.eq_nil_of_length_eq_zero HN.out
          have CJ := hide (fun w => join_none oa ocap ⟨#[44]⟩ w)
          clear hown
          go_wp2_with fail
          refine (CJ.out _).mono ?_
          rintro e w3 ⟨rfl, hw3⟩
          subst hw3
          go_wp2
          go_ret2
          exact ⟨by rw [HR.out, hl0]; rfl, hbel⟩
        · obtain ⟨g, c, rfl, hkc, hgl, hcells⟩ := row_some hown hk0
          have hxl : (l.map lw).length = k := by simpa using HN.out
          have CJ := fun w hc hb => join_some g 0 c (l.map lw) ⟨#[44]⟩ w hc hb (by omega) (by omega) (by have := HJS.out; rw [List.map_map]; show (Lib.join (l.map fun p => (lw p).data.toList) [44]).length ≤ _; omega)
          rw [hxl, List.map_map] at CJ
          change ∀ w hc hb, Calls _ _ _ w fun e w' => e = .returned (.string ⟨(Lib.join (l.map fun p => (lw p).data.toList) [44]).toArray⟩) ∧ _ at CJ
          have hcl : ∀ (j : Nat) x, (l.map lw)[j]? = some x → wr.cell? ⟨g, 0 + j, none⟩ = some (.string x) := fun j x hx => hcells j _ (by
            rw [List.getElem?_map] at hx ⊢
            cases hj : l[j]? with
            | none => rw [hj] at hx; simp at hx
            | some p => rw [hj] at hx; simp at hx ⊢; rw [hx])
          obtain ⟨J, hJ⟩ : ∃ J, J = Lib.join (l.map fun p => (lw p).data.toList) [44] := ⟨_, rfl⟩
          rw [← hJ] at HR HJS CJ
          have CJ2 := hide (CJ wr hcl hgl)
          have hJ8 : ((⟨J.toArray⟩ : ByteArray).size : Int) ≤ 200 := by have := HJS.out; show ((J.toArray.size : Nat) : Int) ≤ 200; simp; omega
          obtain ⟨JB, hJB⟩ : ∃ JB, JB = (⟨J.toArray⟩ : ByteArray) := ⟨_, rfl⟩
          rw [← hJB] at HR CJ2 hJ8
          have B0 := hide hbel
          clear CJ hcl hcells hown hxl hJ hbel hJB HJS
          go_wp2_with fail
          refine CJ2.out.mono ?_
          rintro e w3 ⟨rfl, hb3⟩
          have B3 := hide (B0.out.trans (hb3.mono B0.out.size))
          clear hb3
          go_wp2
          go_ret2
          exact ⟨by rw [HR.out]; rfl, B3.out⟩
  · have C1 := hide (goodLabels_any a l n cap w hn hs hn2 hst false (by simp [hg]))
    have hr' : r = none := by rw [hr]; unfold txRes; rw [if_neg hg]
    have HR := hide hr'
    clear hr hr' hg hs hn hst
    go_enter Try.func66, Try.ntmps66
    go_wp2_with fail
    refine C1.out.mono ?_
    rintro e w1 ⟨rfl, hb1⟩
    go_wp2
    go_ret2
    exact ⟨by rw [HR.out]; rfl, hb1⟩
end Go.Proofs.Ytohcjafklfemfam.L3
