/-
  Contract: impl.longerWords: each text's next two, side by side.
  Contract: impl.WordsOf: the texts of two letters that fit a good form, row by row.
  Contract: spec.l5Fits: what is left of a tree by all letters of a text holds the empty text.
  Contract: spec.WordsOf: the texts of two letters that fit a good form, row by row.
-/
import Derived.Test.YtapffbbmofhpoabBundle4
import Derived.Test.YtapffbbmofhpoabBundle6
import Derived.Test.YtapffbbmofhpoabBundle3
namespace Go.Proofs.Ytapffbbmofhpoab.L5
open Go.RowKit L1 L4
set_option linter.unusedVariables false

set_option maxRecDepth 100000 in
set_option maxHeartbeats 4000000 in
theorem longerWords_any (a : Option Addr) (ws : List ByteArray) (n cap : Nat) (w : World) (hn : ws.length = n) (hn2 : n ≤ 1048576) (hz : ∀ s ∈ ws, s.size ≤ 1000) (hs : SlT w a ws) :
    Calls Try.prog 99 #[.slice a n cap] w fun e w' => ∃ v', e = .returned v' ∧ OwT w' w.heap.size v' (nx ws) ∧ Below w.heap.size w w' := by
  obtain ⟨i1, hi1, hy0, hy1, hy2⟩ := info_parts info_str5
  have HS := hide hs
  have HN := hide hn
  have HZ := hide hz
  clear hs hn hz
  go_enter Try.func99, Try.ntmps99
  go_wp2
  go_loopw [3, 8] (fun v i wr => ∃ j : Nat, j ≤ n ∧ i = .int .i64 j ∧ wr.ownsRow w.heap.size 9 1 v (2 * j) (mapT (nx (ws.take j))) ∧ Below w.heap.size w wr) (fun _ i _ => n - (intOf i).toNat)
  case atStart => exact ⟨0, by omega, rfl, World.ownsRow_nil _ _ _ _, Below.refl _ _⟩
  case round =>
    obtain ⟨j, hj, rfl, hown, hbel⟩ := hrel
    obtain ⟨b1, q1, rfl, _, _⟩ := own_formT hown
    by_cases hlt : j < n
    · obtain ⟨b, off, rfl, hc0⟩ := HS.out j (by rw [HN.out]; exact hlt)
      have hc := (hbel.cell (p := ⟨b, off + j, none⟩) (blk_lt hc0)).trans hc0
      have htk := takeT_snoc ws j (by rw [HN.out]; exact hlt)
      have hz := HZ.out _ (getT_mem ws j (by rw [HN.out]; exact hlt))
      obtain ⟨s, hs⟩ : ∃ s, s = ws.getD j e0 := ⟨_, rfl⟩
      rw [← hs] at hc htk hz
      have q0 : ∀ w : World, (Op.stringOp .add s (⟨#[97]⟩ : ByteArray)).run Try.prog w = .ok (.string (s ++ (⟨#[97]⟩ : ByteArray))) w := fun w => run_string_add_sum w _ _ (by show s.size + 1 ≤ _; omega)
      have q1 : ∀ w : World, (Op.stringOp .add s (⟨#[98]⟩ : ByteArray)).run Try.prog w = .ok (.string (s ++ (⟨#[98]⟩ : ByteArray))) w := fun w => run_string_add_sum w _ _ (by show s.size + 1 ≤ _; omega)
      have hltI : (j : Int) < (n : Int) := by omega
      have hE : nx (ws.take (j + 1)) = nx (ws.take j) ++ two s := by rw [htk, nx_snoc]
      have HE := hide hE
      have O := hide hown
      have B := hide hbel
      clear hs hc0 htk hE hown hbel
      go_wp2_with (first
        | (at_builtin; refine wpList_append_own _ rfl _ _ 66 rfl w.heap.size 9 i1 (.string ByteArray.empty) 1 16 Try.underlying66 hi1 hy0 hy1 hy2 rfl (by decide) _ _ _ rfl (O.out.alloc _) ⟨wr.heap.size, 0, none⟩ 2 2 [.string (s ++ ⟨#[97]⟩), .string (s ++ ⟨#[98]⟩)] rfl rfl (cell_two_newT _ _ rfl _ _ _) (by intro u hu; simp at hu; rcases hu with rfl | rfl <;> rfl) (by unfold maxLen; omega) (by omega) (by have := B.out.size; simp; omega) ?_)
        | go_in)
      intro v6 w6 h6 g6 _
      have hbase : w.heap.size ≤ (wr.alloc (.cells #[.string (s ++ ⟨#[97]⟩), .string (s ++ ⟨#[98]⟩)] 9)).heap.size := by have := B.out.size; simp; omega
      have O6 : w6.ownsRow w.heap.size 9 1 v6 (2 * (j + 1)) (mapT (nx (ws.take (j + 1)))) := by
        rw [HE.out]
        unfold mapT
        rw [List.map_append]
        exact h6
      have B6 := (B.out.alloc (Nat.le_trans B.out.size (Nat.le_refl _)) _).grown g6 hbase (fun k hk => (O.out.lt k hk).1)
      have HR := hide (And.intro O6 B6)
      obtain ⟨a6, c6, rfl, _, _⟩ := own_formT O6
      clear h6 g6 O6 B6 hbase
      go_wp2
      go_roundw
      case rel => exact ⟨j + 1, by omega, by go_num, HR.out⟩
      case measure => simp [intOf]; omega
    · obtain rfl : j = n := by omega
      have hltI : ¬ (j : Int) < (j : Int) := by omega
      have e1 : ws.take j = ws := List.take_of_length_le (by rw [HN.out]; exact Nat.le_refl _)
      rw [e1] at hown
      have hl : (nx ws).length = 2 * j := by rw [nx_len, HN.out]
      have O : OwT wr w.heap.size (.slice b1 (2 * j) q1) (nx ws) := by unfold OwT; rw [hl]; exact hown
      have HO := hide O
      clear O hown e1 hl
      go_wp2
      go_ret
      exact ⟨_, rfl, HO.out, hbel⟩
end Go.Proofs.Ytapffbbmofhpoab.L5

namespace Go.Proofs.Ytapffbbmofhpoab.L5
open Go.RowKit L1 L4
set_option linter.unusedVariables false

theorem ft_take (x : Sh) (ws : List ByteArray) (j : Nat) (h : j < ws.length) : ft x (ws.take (j + 1)) = ft x (ws.take j) ++ ft x [ws.getD j e0] := by rw [takeT_snoc ws j h, ft_snoc]
theorem mapT_app (a b : List ByteArray) : mapT (a ++ b) = mapT a ++ mapT b := by simp
theorem size_fits {n : Nat} {s : ByteArray} (h : s ∈ rw5 n) (hn : n ≤ 4) : s.size ≤ 12 := by rw [(rw5_ok n s h).1]; omega
theorem pow_small {k : Nat} (h : k ≤ 4) : 2 ^ k ≤ 16 := Nat.le_trans (Nat.pow_le_pow_right (by omega) h) (by decide)
/-- What the inner round keeps: what is out so far, the row that is read, in blocks apart. -/
structure InW (w wr : World) (v u : Value) (o ws : List ByteArray) : Prop where
  out : wr.ownsRow w.heap.size 9 1 v o.length (mapT o)
  row : wr.ownsRow w.heap.size 9 1 u ws.length (mapT ws)
  apart : ∀ g, u.ownBlock = some g → v.ownBlock ≠ some g
  bel : Below w.heap.size w wr
theorem InW.below {w wr w' : World} {v u : Value} {o ws : List ByteArray} (h : InW w wr v u o ws) (hb : Below wr.heap.size wr w') : InW w w' v u o ws :=
  ⟨own_belowT h.out hb, own_belowT h.row hb, h.apart, h.bel.trans (hb.mono h.bel.size)⟩
/-- One text more is out. -/
theorem InW.more {w wr w6 : World} {v v6 u : Value} {o ws : List ByteArray} {s : ByteArray} {ob : Obj} (h : InW w wr v u o ws) (h6 : w6.ownsRow w.heap.size 9 1 v6 (o.length + 1) (mapT o ++ [.string s])) (g6 : (wr.alloc ob).grownBy w6 v.ownBlock) (hat : v6.ownBlock = v.ownBlock ∨ v6.ownBlock = some (wr.heap.size + 1)) : InW w w6 v6 u (o ++ [s]) ws := by
  have hz := h.bel.size
  have ha : (wr.alloc ob).heap.size = wr.heap.size + 1 := by simp
  refine ⟨?_, ?_, ?_, ?_⟩
  · rw [mapT_app, List.length_append]
    exact h6
  · exact own_grownT (h.row.alloc ob) g6 (fun g hg => h.apart g hg)
  · intro g hg e
    rcases hat with e2 | e2
    · exact h.apart g hg (e2 ▸ e)
    · rw [e2] at e
      cases e
      have := (h.row.lt _ hg).2
      omega
  · exact (h.bel.alloc hz ob).grown g6 (by omega) (fun k hk => (h.out.lt k hk).1)
/-- The next row. -/
theorem InW.next {w wr w6 : World} {v u v6 : Value} {o ws ys : List ByteArray} (h : InW w wr v u o ws) (h6 : OwT w6 wr.heap.size v6 ys) (hb : Below wr.heap.size wr w6) : InW w w6 v v6 o ys := by
  have hz := h.bel.size
  refine ⟨own_belowT h.out hb, ?_, ?_, h.bel.trans (hb.mono hz)⟩
  · refine ⟨h6.1, ?_⟩
    rcases h6.2 with h0 | ⟨g, cap, cur, hv, hb, rest⟩
    · exact .inl h0
    · exact .inr ⟨g, cap, cur, hv, Nat.le_trans hz hb, rest⟩
  · intro g hg e
    have h1 := (h6.lt g hg).1
    have h2 := (h.out.lt g e).2
    omega
set_option maxRecDepth 100000 in
set_option maxHeartbeats 8000000 in
theorem implWordsOf_any (a : Option Addr) (l : List Pr) (n cap : Nat) (long : Int) (w : World) (hn : l.length = n) (hs : SlP w a l) (hn2 : n ≤ 1048576) (hst : TxP l) (r : Option (List ByteArray)) (hr : r = wordsRes l long) :
    Calls Try.prog 43 #[.slice a n cap, .int .i64 long] w fun e w' => RetW w r e w' := by
  obtain ⟨i1, hi1, hy0, hy1, hy2⟩ := info_parts info_str5
  by_cases hg : GoodF l
  · have C1 := hide (goodForm_any a l n cap w hn hs hn2 hst true (iff_of_true rfl hg))
    by_cases hl0 : long < 0
    · have hr' : r = none := by rw [hr]; unfold wordsRes; rw [if_neg (fun h => by have := h.2.1; omega)]
      subst hr'
      clear hr hn hs hst hg
      go_enter Try.func43, Try.ntmps43
      go_wp2_with fail
      refine C1.out.mono ?_
      rintro e w1 ⟨rfl, hb1⟩
      go_wp2
      go_ret2
      exact retW_none hb1
    by_cases hl3 : 3 < long
    · have hr' : r = none := by rw [hr]; unfold wordsRes; rw [if_neg (fun h => by have := h.2.2; omega)]
      subst hr'
      clear hr hn hs hst hg
      go_enter Try.func43, Try.ntmps43
      go_wp2_with fail
      refine C1.out.mono ?_
      rintro e w1 ⟨rfl, hb1⟩
      go_wp2
      go_ret2
      exact retW_none hb1
    obtain ⟨L, rfl⟩ : ∃ L : Nat, long = (L : Int) := ⟨long.toNat, by omega⟩
    have hL : L ≤ 3 := by omega
    have hr' : r = some (outW (whole l) (L + 1)) := by
      rw [hr]; unfold wordsRes
      rw [if_pos ⟨hg, by omega, by omega⟩]
      simp
    have C3 := hide (fun w hs => shapeOf_any a l n cap w hn hs hg)
    obtain ⟨X, hX⟩ : ∃ X, X = whole l := ⟨_, rfl⟩
    simp only [← hX] at C3 hr'
    have HR := hide hr'
    have HS := hide hs
    clear hr hr' hn hs hst hg hX hl0 hl3
    go_enter Try.func43, Try.ntmps43
    go_wp2_with fail
    refine C1.out.mono ?_
    rintro e w1 ⟨rfl, hb1⟩
    have B1 := hide hb1
    clear hb1
    go_wp2_with fail
    refine (C3.out _ (HS.out.below B1.out)).mono ?_
    rintro e w2 ⟨rfl, hb2⟩
    have B2 := hide (B1.out.trans (hb2.mono B1.out.size))
    clear hb2
    have ST : Hid (InW w (w2.alloc (.cells #[.string ByteArray.empty] 9)) (.slice none 0 0) (.slice (some ⟨w2.heap.size, 0, none⟩) 1 1) (outW X 0) (rw5 0)) := hide ⟨World.ownsRow_nil _ _ _ _, own_litT w2 ByteArray.empty _ B2.out.size, (fun g _ e => by cases e), B2.out.alloc B2.out.size _⟩
    go_wp2
    go_loopw [7, 8, 27] (fun v u i wr => ∃ k : Nat, k ≤ L + 1 ∧ i = .int .i64 k ∧ Hid (InW w wr v u (outW X k) (rw5 k))) (fun _ _ i _ => L + 1 - (intOf i).toNat)
    case atStart => exact ⟨0, by omega, rfl, ST⟩
    case round =>
      obtain ⟨k, hk, rfl, HI⟩ := hrel
      obtain ⟨a1, q1, rfl, _, _⟩ := own_formT HI.out.out
      obtain ⟨a2, q2, rfl, _, _⟩ := own_formT HI.out.row
      have hrl := rw5_len k
      have hp := pow_small (k := k) (by omega)
      have hol := outW_len X k
      have hk1 := pow_small (k := k) (by omega)
      by_cases hlt : k < L + 1
      · have hltI : (k : Int) < (L : Int) + 1 := by omega
        obtain ⟨ws, hws⟩ : ∃ ws, ws = rw5 k := ⟨_, rfl⟩
        have HW := hide (fun s (h : s ∈ ws) => size_fits (n := k) (s := s) (by rw [← hws]; exact h) (by omega))
        have hnx : nx ws = rw5 (k + 1) := by rw [hws]; rfl
        have hou : outW X (k + 1) = outW X k ++ ft X ws := by rw [hws]; rfl
        rw [← hws] at HI hrl ⊢
        obtain ⟨m, hm⟩ : ∃ m, m = ws.length := ⟨_, rfl⟩
        have hm16 : m ≤ 16 := by omega
        have HM := hide hm.symm
        have HNX := hide hnx
        have HOU := hide hou
        have HOL : Hid ((outW X k).length ≤ 16) := hide (by omega)
        rw [← hm] at HI ⊢
        obtain ⟨o, ho⟩ : ∃ o, o = outW X k := ⟨_, rfl⟩
        rw [← ho] at HI HOU HOL ⊢
        clear hws hnx hou hm hrl hp hol hk1 ho
        go_wp2
        go_loopw [7, 31] (fun v i wr => ∃ j : Nat, j ≤ m ∧ i = .int .i64 j ∧ Hid (InW w wr v (.slice a2 m q2) (o ++ ft X (ws.take j)) ws)) (fun _ i _ => m - (intOf i).toNat)
        case atStart => exact ⟨0, by omega, rfl, by simpa [ft] using HI⟩
        case round =>
          obtain ⟨j, hj, rfl, HJ⟩ := hrel
          obtain ⟨a3, q3, rfl, _, _⟩ := own_formT HJ.out.out
          by_cases hjt : j < m
          · have hjtI : (j : Int) < (m : Int) := by omega
            obtain ⟨b, off, rfl, hc⟩ := (own_slT (by have := HJ.out.row; rw [HM.out] at this; exact this)) j (by rw [HM.out]; exact hjt)
            have htk := ft_take X ws j (by rw [HM.out]; exact hjt)
            have hsz := HW.out _ (getT_mem ws j (by rw [HM.out]; exact hjt))
            have hfl := ft_len X (ws.take j)
            have hfl2 : (ws.take j).length ≤ m := by rw [← HM.out]; exact List.length_take_le' _ _
            have HO3 : Hid ((o ++ ft X (ws.take j)).length ≤ 40) := hide (by rw [List.length_append]; have := HOL.out; omega)
            obtain ⟨s, hs⟩ : ∃ s, s = ws.getD j e0 := ⟨_, rfl⟩
            rw [← hs] at hc htk hsz
            by_cases hfit : Mt X (bts s 0)
            · have C4 := hide (fun w => fits_any X s hsz w true (iff_of_true rfl hfit))
              rw [ft_yes hfit] at htk
              have hE : o ++ ft X (ws.take (j + 1)) = o ++ ft X (ws.take j) ++ [s] := by rw [htk, List.append_assoc]
              have HE := hide hE
              obtain ⟨oo, hoo⟩ : ∃ oo, oo = o ++ ft X (ws.take j) := ⟨_, rfl⟩
              rw [← hoo] at HJ HE HO3 ⊢
              clear hs htk hfl hfl2 hfit hE hoo hsz
              go_wp2_with fail
              refine (C4.out _).mono ?_
              rintro e w4 ⟨rfl, hb4⟩
              have H4 := hide (HJ.out.below hb4)
              clear hb4 hc
              have hO3 := HO3.out
              go_wp2_with (first
                | (at_builtin; refine wpList_append_own_at _ rfl _ _ 66 rfl w.heap.size 9 i1 (.string ByteArray.empty) 1 16 Try.underlying66 hi1 hy0 hy1 hy2 rfl (by decide) _ _ _ rfl (H4.out.out.alloc _) ⟨w4.heap.size, 0, none⟩ 1 1 [.string s] rfl rfl (cell_one_newT _ _ rfl _ _) (by intro u hu; simp at hu; subst hu; rfl) (by unfold maxLen; omega) (by omega) (by have := H4.out.bel.size; simp; omega) ?_)
                | go_in)
              intro v6 w6 h6 g6 _ hat
              have H6 := hide (H4.out.more h6 g6 hat)
              rw [← HE.out] at H6
              obtain ⟨a6, c6, rfl⟩ := own_shapeT h6
              clear h6 g6 hat
              go_wp2
              go_roundw
              case rel => exact ⟨j + 1, by omega, by go_num, H6⟩
              case measure => simp [intOf]; omega
            · have C4 := hide (fun w => fits_any X s hsz w false (iff_of_false (by simp) hfit))
              rw [ft_no hfit, List.append_nil] at htk
              rw [← htk] at HJ ⊢
              obtain ⟨oo, hoo⟩ : ∃ oo, oo = o ++ ft X (ws.take (j + 1)) := ⟨_, rfl⟩
              have HE := hide hoo
              rw [← hoo] at HJ ⊢
              clear hs htk hfl hfl2 hfit hsz hoo
              go_wp2_with fail
              refine (C4.out _).mono ?_
              rintro e w4 ⟨rfl, hb4⟩
              have H4 := hide (HJ.out.below hb4)
              clear hb4 hc
              go_wp2
              go_roundw
              case rel => exact ⟨j + 1, by omega, by go_num, by rw [← HE.out]; exact H4⟩
              case measure => simp [intOf]; omega
          · obtain rfl : j = m := by omega
            have hjtI : ¬ (j : Int) < (j : Int) := by omega
            have e1 : ws.take j = ws := List.take_of_length_le (by rw [HM.out]; exact Nat.le_refl _)
            rw [e1] at HJ ⊢
            rw [← HOU.out] at HJ ⊢
            have C5 := hide (longerWords_any a2 ws j q2 wr HM.out (by omega) (fun s h => by have := HW.out s h; omega) (own_slT (by have := HJ.out.row; rw [HM.out] at this; exact this)))
            rw [HNX.out] at C5
            clear e1
            go_wp2_with fail
            refine C5.out.mono ?_
            rintro e w5 ⟨v5, rfl, o5, hb5⟩
            have H5 := hide (HJ.out.next o5 hb5)
            obtain ⟨a5, c5, rfl⟩ := own_shapeT o5
            clear o5 hb5
            go_wp2
            go_roundw
            case rel => exact ⟨k + 1, by omega, by go_num, H5⟩
            case measure => simp [intOf]; omega
      · obtain rfl : k = L + 1 := by omega
        have hltI : ¬ ((L + 1 : Nat) : Int) < (L : Int) + 1 := by omega
        clear hrl hp hol hk1
        go_wp2
        go_ret2
        rw [HR.out]
        exact ⟨_, rfl, HI.out.out, HI.out.bel⟩
  · have C1 := hide (goodForm_any a l n cap w hn hs hn2 hst false (iff_of_false (by simp) hg))
    have hr' : r = none := by rw [hr]; unfold wordsRes; rw [if_neg (fun h => hg h.1)]
    subst hr'
    clear hr hn hs hst hg
    go_enter Try.func43, Try.ntmps43
    go_wp2_with fail
    refine C1.out.mono ?_
    rintro e w1 ⟨rfl, hb1⟩
    go_wp2
    go_ret2
    exact retW_none hb1
end Go.Proofs.Ytapffbbmofhpoab.L5

namespace Go.Proofs.Ytapffbbmofhpoab.L5
open Go.RowKit L1 L4
set_option linter.unusedVariables false

theorem bts_lenF (s : ByteArray) : (bts s 0).length = s.size := by rw [bts_len]; omega
theorem okS_lefts : ∀ (s : List Int) (x : Sh), okS x → okS (lefts x s)
  | [], x, h => h
  | c :: s, x, h => okS_lefts s (left x c) (okS_left x c h)
theorem take_bts (s : ByteArray) (j : Nat) (h : j < s.size) : (bts s 0).take (j + 1) = (bts s 0).take j ++ [(bts s 0).getD j 0] := by
  have hl : j < (bts s 0).length := by rw [bts_lenF]; exact h
  rw [List.take_succ_eq_append_getElem hl]
  simp [List.getD, List.getElem?_eq_getElem hl]
set_option maxRecDepth 100000 in
set_option maxHeartbeats 2000000 in
theorem l5Fits_any (x : Sh) (s : ByteArray) (p : Option Addr) (w : World) (hok : okS x) (hs : s.size ≤ 1000) (t : Tr w Any p x) (bb : Bool) (hbb : bb = true ↔ Mt x (bts s 0)) :
    Calls Try.prog 100 #[.pointer p, .string s] w fun e w' => e = .returned (.bool bb) ∧ Below w.heap.size w w' := by
  have HT := hide t
  have HB : Hid (nul (lefts x (bts s 0)) = bb) := hide (by
    have h1 := lefts_iff (bts s 0) x
    cases h : nul (lefts x (bts s 0)) with
    | true => exact (hbb.2 (h1.1 h)).symm
    | false => exact (bool_noT hbb (fun hm => by rw [h1.2 hm] at h; cases h)).symm)
  have HOK := hide (fun q => okS_lefts q x hok)
  clear t hbb hok
  go_enter Try.func100, Try.ntmps100
  go_wp2
  go_loopw [0, 5] (fun v i wr => ∃ (k : Nat) (q : Option Addr), k ≤ s.size ∧ i = .int .i64 k ∧ v = .pointer q ∧ Hid (Tr wr Any q (lefts x ((bts s 0).take k))) ∧ Below w.heap.size w wr) (fun _ i _ => s.size - (intOf i).toNat)
  case atStart => exact ⟨0, p, by omega, rfl, rfl, by simpa [lefts] using HT, Below.refl _ _⟩
  case round =>
    obtain ⟨k, q, hk, rfl, rfl, HQ, hbel⟩ := hrel
    by_cases hlt : k < s.size
    · have hltI : (k : Int) < (s.size : Int) := by omega
      have htk := take_bts s k hlt
      have hE : lefts x ((bts s 0).take (k + 1)) = left (lefts x ((bts s 0).take k)) ((bts s 0).getD k 0) := by rw [htk, lefts_snoc]
      have C := hide (fun w t => l5Left_any ((bts s 0).getD k 0) (lefts x ((bts s 0).take k)) q w (HOK.out _) t)
      rw [← hE] at C
      have hcat := bts_at s k hlt
      obtain ⟨c, hc⟩ : ∃ c, c = (bts s 0).getD k 0 := ⟨_, rfl⟩
      rw [← hc] at C hcat
      have hc2 := hcat.symm
      have B := hide hbel
      clear hc htk hE hbel hcat
      go_wp2_with fail
      refine (C.out _ HQ.out).mono ?_
      rintro e w4 ⟨q4, rfl, t4, hb4⟩
      have T4 := hide t4
      have B4 := hide (B.out.trans (hb4.mono B.out.size))
      clear t4 hb4
      go_wp2
      go_roundw
      case rel => exact ⟨k + 1, q4, by omega, by go_num, rfl, T4, B4.out⟩
      case measure => simp [intOf]; omega
    · obtain rfl : k = s.size := by omega
      have hltI : ¬ (s.size : Int) < (s.size : Int) := by omega
      have e1 : (bts s 0).take s.size = bts s 0 := List.take_of_length_le (by rw [bts_lenF]; exact Nat.le_refl _)
      rw [e1] at HQ
      have C := hide (l5Empty_any Any _ q wr HQ.out)
      rw [HB.out] at C
      clear e1
      have B := hide hbel
      clear hbel
      go_wp2_with fail
      refine C.out.mono ?_
      rintro e w4 ⟨rfl, rfl⟩
      go_wp2
      go_ret
      exact ⟨rfl, B.out⟩
end Go.Proofs.Ytapffbbmofhpoab.L5

namespace Go.Proofs.Ytapffbbmofhpoab.L5
open Go.RowKit L1 L4
set_option linter.unusedVariables false

theorem own_baseT {w : World} {b1 b2 c n : Nat} {t : TypeId} {v : Value} {xs : List Value} (h : w.ownsRow b1 t c v n xs) (hb : b2 ≤ b1) : w.ownsRow b2 t c v n xs := by
  refine ⟨h.1, ?_⟩
  rcases h.2 with h0 | ⟨g, cap, cur, hv, hg, rest⟩
  · exact .inl h0
  · exact .inr ⟨g, cap, cur, hv, Nat.le_trans hb hg, rest⟩
/-- What the model's inner round keeps: what is out, the row that is read, the row that comes, in blocks apart. -/
structure IM (w wr : World) (v u x : Value) (o ws ns : List ByteArray) : Prop where
  two : InW w wr v u o ws
  nxt : wr.ownsRow w.heap.size 9 1 x ns.length (mapT ns)
  ap1 : ∀ g, u.ownBlock = some g → x.ownBlock ≠ some g
  ap2 : ∀ g, v.ownBlock = some g → x.ownBlock ≠ some g
theorem IM.below {w wr w' : World} {v u x : Value} {o ws ns : List ByteArray} (h : IM w wr v u x o ws ns) (hb : Below wr.heap.size wr w') : IM w w' v u x o ws ns :=
  ⟨h.two.below hb, own_belowT h.nxt hb, h.ap1, h.ap2⟩
theorem IM.start {w wr : World} {v u : Value} {o ws : List ByteArray} (h : InW w wr v u o ws) : IM w wr v u (.slice none 0 0) o ws [] :=
  ⟨h, World.ownsRow_nil _ _ _ _, (fun g _ e => by cases e), (fun g _ e => by cases e)⟩
theorem IM.turn {w wr : World} {v u x : Value} {o ws ns : List ByteArray} (h : IM w wr v u x o ws ns) : InW w wr v x o ns :=
  ⟨h.two.out, h.nxt, fun g hg e => h.ap2 g e hg, h.two.bel⟩
theorem IM.more {w wr w6 : World} {v v6 u x : Value} {o ws ns : List ByteArray} {s : ByteArray} {ob : Obj} (h : IM w wr v u x o ws ns) (h6 : w6.ownsRow w.heap.size 9 1 v6 (o.length + 1) (mapT o ++ [.string s])) (g6 : (wr.alloc ob).grownBy w6 v.ownBlock) (hat : v6.ownBlock = v.ownBlock ∨ v6.ownBlock = some (wr.heap.size + 1)) : IM w w6 v6 u x (o ++ [s]) ws ns := by
  refine ⟨h.two.more h6 g6 hat, own_grownT (h.nxt.alloc ob) g6 (fun g hg e => h.ap2 g e hg), h.ap1, ?_⟩
  intro g hg e
  rcases hat with e2 | e2
  · exact h.ap2 g (e2 ▸ hg) e
  · rw [e2] at hg
    cases hg
    have := (h.nxt.lt _ e).2
    omega
theorem IM.grow {w wr w6 : World} {v u x x6 : Value} {o ws ns : List ByteArray} {s : ByteArray} {ob : Obj} (h : IM w wr v u x o ws ns) (h6 : w6.ownsRow w.heap.size 9 1 x6 (ns.length + 2) (mapT ns ++ [.string (s ++ ⟨#[97]⟩), .string (s ++ ⟨#[98]⟩)])) (g6 : (wr.alloc ob).grownBy w6 x.ownBlock) (hat : x6.ownBlock = x.ownBlock ∨ x6.ownBlock = some (wr.heap.size + 1)) : IM w w6 v u x6 o ws (ns ++ L5.two s) := by
  have hz := h.two.bel.size
  have ha : (wr.alloc ob).heap.size = wr.heap.size + 1 := by simp
  refine ⟨⟨own_grownT (h.two.out.alloc ob) g6 (fun g hg => h.ap2 g hg), own_grownT (h.two.row.alloc ob) g6 (fun g hg => h.ap1 g hg), h.two.apart, (h.two.bel.alloc hz ob).grown g6 (by omega) (fun k hk => (h.nxt.lt k hk).1)⟩, ?_, ?_, ?_⟩
  · rw [mapT_app, List.length_append]
    exact h6
  · intro g hg e
    rcases hat with e2 | e2
    · exact h.ap1 g hg (e2 ▸ e)
    · rw [e2] at e
      cases e
      have := (h.two.row.lt _ hg).2
      omega
  · intro g hg e
    rcases hat with e2 | e2
    · exact h.ap2 g hg (e2 ▸ e)
    · rw [e2] at e
      cases e
      have := (h.two.out.lt _ hg).2
      omega
theorem tr_in {w wr : World} {p : Option Addr} {x : Sh} (h : Tr w Any p x) (hb : Below w.heap.size w wr) : Tr wr Any p x := h.below hb
set_option maxRecDepth 100000 in
set_option maxHeartbeats 8000000 in
theorem specWordsOf_any (a : Option Addr) (l : List Pr) (n cap : Nat) (long : Int) (w : World) (hn : l.length = n) (hs : SlP w a l) (hn2 : n ≤ 1048576) (hst : TxP l) (r : Option (List ByteArray)) (hr : r = wordsRes l long) :
    Calls Try.prog 44 #[.slice a n cap, .int .i64 long] w fun e w' => RetW w r e w' := by
  obtain ⟨i1, hi1, hy0, hy1, hy2⟩ := info_parts info_str5
  by_cases hg : GoodF l
  · have C1 := hide (specGoodForm_any a l n cap w hn hs hn2 hst true (iff_of_true rfl hg))
    by_cases hl : 0 ≤ long ∧ long ≤ 3
    · have C2 := hide (fun w => l1In_any long 0 3 w true (iff_of_true rfl hl))
      obtain ⟨L, rfl⟩ : ∃ L : Nat, long = (L : Int) := ⟨long.toNat, by omega⟩
      have hL : L ≤ 3 := by omega
      have hr' : r = some (outW (whole l) (L + 1)) := by
        rw [hr]; unfold wordsRes
        rw [if_pos ⟨hg, by omega, by omega⟩]
        simp
      have C3 := hide (fun w hs => l5Tree_whole a l n cap w hn hg hs)
      have HOK := hide (okS_whole hg)
      have hnI : (1 : Int) ≤ (n : Int) := by have := hg.1; omega
      obtain ⟨X, hX⟩ : ∃ X, X = whole l := ⟨_, rfl⟩
      simp only [← hX] at C3 hr' HOK
      have HR := hide hr'
      have HS := hide hs
      clear hr hr' hn hs hst hg hX hl
      go_enter Try.func44, Try.ntmps44
      go_wp2_with fail
      refine C1.out.mono ?_
      rintro e w1 ⟨rfl, hb1⟩
      have B1 := hide hb1
      clear hb1
      go_wp2_with fail
      refine (C2.out _).mono ?_
      rintro e w1 ⟨rfl, rfl⟩
      go_wp2_with fail
      refine (C3.out _ (HS.out.below B1.out)).mono ?_
      rintro e w2 ⟨p2, rfl, t2, hb2⟩
      have B2 := hide (B1.out.trans (hb2.mono B1.out.size))
      have T2 := hide t2.any
      clear hb2 t2
      have ST : Hid (InW w2 (w2.alloc (.cells #[.string ByteArray.empty] 9)) (.slice none 0 0) (.slice (some ⟨w2.heap.size, 0, none⟩) 1 1) (outW X 0) (rw5 0)) := hide ⟨World.ownsRow_nil _ _ _ _, own_litT w2 ByteArray.empty _ (Nat.le_refl _), (fun g _ e => by cases e), (Below.refl _ _).alloc (Nat.le_refl _) _⟩
      go_wp2
      go_loopw [7, 8, 9] (fun u v i wr => ∃ k : Nat, k ≤ L + 1 ∧ i = .int .i64 k ∧ Hid (InW w2 wr v u (outW X k) (rw5 k))) (fun _ _ i _ => L + 1 - (intOf i).toNat)
      case atStart => exact ⟨0, by omega, rfl, ST⟩
      case round =>
        obtain ⟨k, hk, rfl, HI⟩ := hrel
        obtain ⟨a1, q1, rfl, _, _⟩ := own_formT HI.out.out
        obtain ⟨a2, q2, rfl, _, _⟩ := own_formT HI.out.row
        have hrl := rw5_len k
        have hp := pow_small (k := k) (by omega)
        have hol := outW_len X k
        by_cases hlt : k < L + 1
        · have hltI : (k : Int) ≤ (L : Int) := by omega
          obtain ⟨ws, hws⟩ : ∃ ws, ws = rw5 k := ⟨_, rfl⟩
          have HW := hide (fun s (h : s ∈ ws) => size_fits (n := k) (s := s) (by rw [← hws]; exact h) (by omega))
          have hnx : nx ws = rw5 (k + 1) := by rw [hws]; rfl
          have hou : outW X (k + 1) = outW X k ++ ft X ws := by rw [hws]; rfl
          rw [← hws] at HI hrl ⊢
          obtain ⟨m, hm⟩ : ∃ m, m = ws.length := ⟨_, rfl⟩
          have hm16 : m ≤ 16 := by omega
          have HM := hide hm.symm
          have HNX := hide hnx
          have HOU := hide hou
          have HOL : Hid ((outW X k).length ≤ 16) := hide (by omega)
          rw [← hm] at HI ⊢
          obtain ⟨o, ho⟩ : ∃ o, o = outW X k := ⟨_, rfl⟩
          rw [← ho] at HI HOU HOL ⊢
          clear hws hnx hou hm hrl hp hol ho
          go_wp2
          go_loopw [8, 10, 34] (fun v x i wr => ∃ j : Nat, j ≤ m ∧ i = .int .i64 j ∧ Hid (IM w2 wr v (.slice a2 m q2) x (o ++ ft X (ws.take j)) ws (nx (ws.take j)))) (fun _ _ i _ => m - (intOf i).toNat)
          case atStart => exact ⟨0, by omega, rfl, by simpa [ft, nx] using hide (IM.start HI.out)⟩
          case round =>
            obtain ⟨j, hj, rfl, HJ⟩ := hrel
            obtain ⟨a3, q3, rfl, _, _⟩ := own_formT HJ.out.two.out
            obtain ⟨a4, q4, rfl, _, _⟩ := own_formT HJ.out.nxt
            by_cases hjt : j < m
            · have hjtI : (j : Int) < (m : Int) := by omega
              obtain ⟨b, off, rfl, hc⟩ := (own_slT (by have := HJ.out.two.row; rw [HM.out] at this; exact this)) j (by rw [HM.out]; exact hjt)
              have htk := ft_take X ws j (by rw [HM.out]; exact hjt)
              have hnk := congrArg nx (takeT_snoc ws j (by rw [HM.out]; exact hjt))
              rw [nx_snoc] at hnk
              have hsz := HW.out _ (getT_mem ws j (by rw [HM.out]; exact hjt))
              have hfl := ft_len X (ws.take j)
              have hfl2 : (ws.take j).length ≤ m := by rw [← HM.out]; exact List.length_take_le' _ _
              have hnl := nx_len (ws.take j)
              have hO3 : (o ++ ft X (ws.take j)).length ≤ 40 := by rw [List.length_append]; have := HOL.out; omega
              have hN3 : (nx (ws.take j)).length ≤ 40 := by omega
              obtain ⟨s, hs⟩ : ∃ s, s = ws.getD j e0 := ⟨_, rfl⟩
              rw [← hs] at hc htk hsz hnk
              obtain ⟨nn, hnn⟩ : ∃ nn, nn = nx (ws.take j) := ⟨_, rfl⟩
              rw [← hnn] at hnk HJ hN3 ⊢
              have HNK := hide hnk
              have q0 : ∀ w : World, (Op.stringOp .add s (⟨#[97]⟩ : ByteArray)).run Try.prog w = .ok (.string (s ++ (⟨#[97]⟩ : ByteArray))) w := fun w => run_string_add_sum w _ _ (by show s.size + 1 ≤ _; omega)
              have q1 : ∀ w : World, (Op.stringOp .add s (⟨#[98]⟩ : ByteArray)).run Try.prog w = .ok (.string (s ++ (⟨#[98]⟩ : ByteArray))) w := fun w => run_string_add_sum w _ _ (by show s.size + 1 ≤ _; omega)
              have HT := hide (tr_in T2.out HJ.out.two.bel)
              by_cases hfit : Mt X (bts s 0)
              · have C4 := hide (fun p w t => l5Fits_any X s p w HOK.out (by omega) t true (iff_of_true rfl hfit))
                rw [ft_yes hfit] at htk
                have hE : o ++ ft X (ws.take (j + 1)) = o ++ ft X (ws.take j) ++ [s] := by rw [htk, List.append_assoc]
                have HE := hide hE
                obtain ⟨oo, hoo⟩ : ∃ oo, oo = o ++ ft X (ws.take j) := ⟨_, rfl⟩
                rw [← hoo] at HJ HE hO3 ⊢
                clear hs htk hfl hfl2 hfit hE hoo hsz hnk hnn hnl
                go_wp2_with fail
                refine (C4.out _ _ HT.out).mono ?_
                rintro e w4 ⟨rfl, hb4⟩
                have H4 := hide (HJ.out.below hb4)
                clear hb4 hc HT
                go_wp2_with (first
                  | (at_builtin; refine wpList_append_own_at _ rfl _ _ 66 rfl w2.heap.size 9 i1 (.string ByteArray.empty) 1 16 Try.underlying66 hi1 hy0 hy1 hy2 rfl (by decide) _ _ _ rfl (H4.out.two.out.alloc _) ⟨w4.heap.size, 0, none⟩ 1 1 [.string s] rfl rfl (cell_one_newT _ _ rfl _ _) (by intro u hu; simp at hu; subst hu; rfl) (by unfold maxLen; omega) (by omega) (by have := H4.out.two.bel.size; simp; omega) ?_)
                  | go_in)
                intro v6 w6 h6 g6 _ hat
                have H6 := hide (H4.out.more h6 g6 hat)
                obtain ⟨a6, c6, rfl⟩ := own_shapeT h6
                clear h6 g6 hat
                go_wp2_with (first
                  | (at_builtin; refine wpList_append_own_at _ rfl _ _ 66 rfl w2.heap.size 9 i1 (.string ByteArray.empty) 1 16 Try.underlying66 hi1 hy0 hy1 hy2 rfl (by decide) _ _ _ rfl (H6.out.nxt.alloc _) ⟨w6.heap.size, 0, none⟩ 2 2 [.string (s ++ ⟨#[97]⟩), .string (s ++ ⟨#[98]⟩)] rfl rfl (cell_two_newT _ _ rfl _ _ _) (by intro u hu; simp at hu; rcases hu with rfl | rfl <;> rfl) (by unfold maxLen; omega) (by omega) (by have := H6.out.two.bel.size; simp; omega) ?_)
                  | go_in)
                intro v7 w7 h7 g7 _ hat
                have H7 := hide (H6.out.grow h7 g7 hat)
                rw [← HE.out, ← HNK.out] at H7
                obtain ⟨a7, c7, rfl⟩ := own_shapeT h7
                clear h7 g7 hat
                go_wp2
                go_roundw
                case rel => exact ⟨j + 1, by omega, by go_num, H7⟩
                case measure => simp [intOf]; omega
              · have C4 := hide (fun p w t => l5Fits_any X s p w HOK.out (by omega) t false (iff_of_false (by simp) hfit))
                rw [ft_no hfit, List.append_nil] at htk
                rw [← htk] at HJ ⊢
                obtain ⟨oo, hoo⟩ : ∃ oo, oo = o ++ ft X (ws.take (j + 1)) := ⟨_, rfl⟩
                have HE := hide hoo
                rw [← hoo] at HJ ⊢
                clear hs htk hfl hfl2 hfit hoo hsz hnk hnn hnl hO3
                go_wp2_with fail
                refine (C4.out _ _ HT.out).mono ?_
                rintro e w4 ⟨rfl, hb4⟩
                have H4 := hide (HJ.out.below hb4)
                clear hb4 hc HT
                go_wp2_with (first
                  | (at_builtin; refine wpList_append_own_at _ rfl _ _ 66 rfl w2.heap.size 9 i1 (.string ByteArray.empty) 1 16 Try.underlying66 hi1 hy0 hy1 hy2 rfl (by decide) _ _ _ rfl (H4.out.nxt.alloc _) ⟨w4.heap.size, 0, none⟩ 2 2 [.string (s ++ ⟨#[97]⟩), .string (s ++ ⟨#[98]⟩)] rfl rfl (cell_two_newT _ _ rfl _ _ _) (by intro u hu; simp at hu; rcases hu with rfl | rfl <;> rfl) (by unfold maxLen; omega) (by omega) (by have := H4.out.two.bel.size; simp; omega) ?_)
                  | go_in)
                intro v7 w7 h7 g7 _ hat
                have H7 := hide (H4.out.grow h7 g7 hat)
                rw [HE.out, ← HNK.out] at H7
                rw [HE.out]
                obtain ⟨a7, c7, rfl⟩ := own_shapeT h7
                clear h7 g7 hat
                go_wp2
                go_roundw
                case rel => exact ⟨j + 1, by omega, by go_num, by simpa using H7⟩
                case measure => simp [intOf]; omega
            · obtain rfl : j = m := by omega
              have hjtI : ¬ (j : Int) < (j : Int) := by omega
              have e1 : ws.take j = ws := List.take_of_length_le (by rw [HM.out]; exact Nat.le_refl _)
              rw [e1] at HJ ⊢
              rw [← HOU.out, HNX.out] at HJ
              rw [← HOU.out, HNX.out]
              have H5 := hide HJ.out.turn
              clear e1
              go_wp2
              go_roundw
              case rel => exact ⟨k + 1, by omega, by go_num, H5⟩
              case measure => simp [intOf]; omega
        · obtain rfl : k = L + 1 := by omega
          have hltI : ¬ ((L + 1 : Nat) : Int) ≤ (L : Int) := by omega
          clear hrl hp hol
          go_wp2
          go_ret2
          rw [HR.out]
          exact ⟨_, rfl, own_baseT HI.out.out B2.out.size, B2.out.trans (HI.out.bel.mono B2.out.size)⟩
    · have C2 := hide (fun w => l1In_any long 0 3 w false (iff_of_false (by simp) hl))
      have hr' : r = none := by rw [hr]; unfold wordsRes; rw [if_neg (fun h => hl h.2)]
      subst hr'
      clear hr hn hs hst hg hl
      go_enter Try.func44, Try.ntmps44
      go_wp2_with fail
      refine C1.out.mono ?_
      rintro e w1 ⟨rfl, hb1⟩
      go_wp2_with fail
      refine (C2.out _).mono ?_
      rintro e w1 ⟨rfl, rfl⟩
      go_wp2
      go_ret2
      exact retW_none hb1
  · have C1 := hide (specGoodForm_any a l n cap w hn hs hn2 hst false (iff_of_false (by simp) hg))
    have hr' : r = none := by rw [hr]; unfold wordsRes; rw [if_neg (fun h => hg h.1)]
    subst hr'
    clear hr hn hs hst hg
    go_enter Try.func44, Try.ntmps44
    go_wp2_with fail
    refine C1.out.mono ?_
    rintro e w1 ⟨rfl, hb1⟩
    go_wp2
    go_ret2
    exact retW_none hb1
end Go.Proofs.Ytapffbbmofhpoab.L5
