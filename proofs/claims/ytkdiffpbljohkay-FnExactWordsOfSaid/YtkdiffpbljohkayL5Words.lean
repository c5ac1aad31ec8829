/-
  Contract: impl.WordsOf: the texts of two letters that fit a good form, row by row.
-/
import Derived.Test.YtkdiffpbljohkayL5Longer
import Derived.Test.YtkdiffpbljohkayL5Fits
namespace Go.Proofs.Ytkdiffpbljohkay.L5
open Go.RowKit L1 L4
set_option linter.unusedVariables false

theorem ft_take (x : Sh) (ws : List ByteArray) (j : Nat) (h : j < ws.length) : ft x (ws.take (j + 1)) = ft x (ws.take j) ++ ft x [ws.getD j e0] := by rw [takeT_snoc ws j h, ft_snoc]
theorem mapT_app (a b : List ByteArray) : mapT (a ++ b) = mapT a ++ mapT b := by simp
theorem size_fits {n : Nat} {s : ByteArray} (h : s ∈ rw5 n) (hn : n ≤ 4) : s.size ≤ 12 := by rw [(rw5_ok n s h).1]; omega
theorem pow_small {k : Nat} (h : k ≤ 4) : 2 ^ k ≤ 16 := Nat.le_trans (Nat.pow_le_pow_right (by omega) h) (by decide)
/-- What the inner round keeps: what is out so far, the row that is read, in blocks apart. -/
structure InW (w wr : World) (v u : Value) (o ws : List ByteArray) : Prop where
  out : wr.ownsRow w.heap.size 9 1 v o.length (mapT o)
  row : wr.ownsRow w.heap.size 9 1 u ws.length (mapT ws)
  apart : ∀ g, u.ownBlock = some g → v.ownBlock ≠ some g
  bel : Below w.heap.size w wr
theorem InW.below {w wr w' : World} {v u : Value} {o ws : List ByteArray} (h : InW w wr v u o ws) (hb : Below wr.heap.size wr w') : InW w w' v u o ws :=
  ⟨own_belowT h.out hb, own_belowT h.row hb, h.apart, h.bel.trans (hb.mono h.bel.size)⟩
/-- One text more is out. -/
theorem InW.more {w wr w6 : World} {v v6 u : Value} {o ws : List ByteArray} {s : ByteArray} {ob : Obj} (h : InW w wr v u o ws) (h6 : w6.ownsRow w.heap.size 9 1 v6 (o.length + 1) (mapT o ++ [.string s])) (g6 : (wr.alloc ob).grownBy w6 v.ownBlock) (hat : v6.ownBlock = v.ownBlock ∨ v6.ownBlock = some (wr.heap.size + 1)) : InW w w6 v6 u (o ++ [s]) ws := by
  have hz := h.bel.size
  have ha : (wr.alloc ob).heap.size = wr.heap.size + 1 := by simp
  refine ⟨?_, ?_, ?_, ?_⟩
  · rw [mapT_app, List.length_append]
    exact h6
  · exact own_grownT (h.row.alloc ob) g6 (fun g hg => h.apart g hg)
  · intro g hg e
    rcases hat with e2 | e2
    · exact h.apart g hg (e2 ▸ e)
    · rw [e2] at e
      cases e
      have := (h.row.lt _ hg).2
      omega
  · exact (h.bel.alloc hz ob).grown g6 (by omega) (fun k hk => (h.out.lt k hk).1)
/-- The next row. -/
theorem InW.next {w wr w6 : World} {v u v6 : Value} {o ws ys : List ByteArray} (h : InW w wr v u o ws) (h6 : OwT w6 wr.heap.size v6 ys) (hb : Below wr.heap.size wr w6) : InW w w6 v v6 o ys := by
  have hz := h.bel.size
  refine ⟨own_belowT h.out hb, ?_, ?_, h.bel.trans (hb.mono hz)⟩
  · refine ⟨h6.1, ?_⟩
    rcases h6.2 with h0 | ⟨g, cap, cur, hv, hb, rest⟩
    · exact .inl h0
    · exact .inr ⟨g, cap, cur, hv, Nat.le_trans hz hb, rest⟩
  · intro g hg e
    have h1 := (h6.lt g hg).1
    have h2 := (h.out.lt g e).2
    omega
set_option maxRecDepth 100000 in
set_option maxHeartbeats 8000000 in
theorem implWordsOf_any (a : Option Addr) (l : List Pr) (n cap : Nat) (long : Int) (w : World) (hn : l.length = n) (hs : SlP w a l) (hn2 : n ≤ 1048576) (hst : TxP l) (r : Option (List ByteArray)) (hr : r = wordsRes l long) :
    Calls Try.prog 19 #[.slice a n cap, .int .i64 long] w fun e w' => RetW w r e w' := by
  obtain ⟨i1, hi1, hy0, hy1, hy2⟩ := info_parts info_str5
  by_cases hg : GoodF l
  · have C1 := hide (goodForm_any a l n cap w hn hs hn2 hst true (iff_of_true rfl hg))
    by_cases hl0 : long < 0
    · have hr' : r = none := by rw [hr]; unfold wordsRes; rw [if_neg (fun h => by have := h.2.1; omega)]
      subst hr'
      clear hr hn hs hst hg
      go_enter Try.func19, Try.ntmps19
      go_wp2_with fail
      refine C1.out.mono ?_
      rintro e w1 ⟨rfl, hb1⟩
      go_wp2
      go_ret2
      exact retW_none hb1
    by_cases hl3 : 3 < long
    · have hr' : r = none := by rw [hr]; unfold wordsRes; rw [if_neg (fun h => by have := h.2.2; omega)]
      subst hr'
      clear hr hn hs hst hg
      go_enter Try.func19, Try.ntmps19
      go_wp2_with fail
      refine C1.out.mono ?_
      rintro e w1 ⟨rfl, hb1⟩
      go_wp2
      go_ret2
      exact retW_none hb1
    obtain ⟨L, rfl⟩ : ∃ L : Nat, long = (L : Int) := ⟨long.toNat, by omega⟩
    have hL : L ≤ 3 := by omega
    have hr' : r = some (outW (whole l) (L + 1)) := by
      rw [hr]; unfold wordsRes
      rw [if_pos ⟨hg, by omega, by omega⟩]
      simp
    have C3 := hide (fun w hs => shapeOf_any a l n cap w hn hs hg)
    obtain ⟨X, hX⟩ : ∃ X, X = whole l := ⟨_, rfl⟩
    simp only [← hX] at C3 hr'
    have HR := hide hr'
    have HS := hide hs
    clear hr hr' hn hs hst hg hX hl0 hl3
    go_enter Try.func19, Try.ntmps19
    go_wp2_with fail
    refine C1.out.mono ?_
    rintro e w1 ⟨rfl, hb1⟩
    have B1 := hide hb1
    clear hb1
    go_wp2_with fail
    refine (C3.out _ (HS.out.below B1.out)).mono ?_
    rintro e w2 ⟨rfl, hb2⟩
    have B2 := hide (B1.out.trans (hb2.mono B1.out.size))
    clear hb2
    have ST : Hid (InW w (w2.alloc (.cells #[.string ByteArray.empty] 9)) (.slice none 0 0) (.slice (some ⟨w2.heap.size, 0, none⟩) 1 1) (outW X 0) (rw5 0)) := hide ⟨World.ownsRow_nil _ _ _ _, own_litT w2 ByteArray.empty _ B2.out.size, (fun g _ e => by cases e), B2.out.alloc B2.out.size _⟩
    go_wp2
    go_loopw [7, 8, 27] (fun v u i wr => ∃ k : Nat, k ≤ L + 1 ∧ i = .int .i64 k ∧ Hid (InW w wr v u (outW X k) (rw5 k))) (fun _ _ i _ => L + 1 - (intOf i).toNat)
    case atStart => exact ⟨0, by omega, rfl, ST⟩
    case round =>
      obtain ⟨k, hk, rfl, HI⟩ := hrel
      obtain ⟨a1, q1, rfl, _, _⟩ := own_formT HI.out.out
      obtain ⟨a2, q2, rfl, _, _⟩ := own_formT HI.out.row
      have hrl := rw5_len k
      have hp := pow_small (k := k) (by omega)
      have hol := outW_len X k
      have hk1 := pow_small (k := k) (by omega)
      by_cases hlt : k < L + 1
      · have hltI : (k : Int) < (L : Int) + 1 := by omega
        obtain ⟨ws, hws⟩ : ∃ ws, ws = rw5 k := ⟨_, rfl⟩
        have HW := hide (fun s (h : s ∈ ws) => size_fits (n := k) (s := s) (by rw [← hws]; exact h) (by omega))
        have hnx : nx ws = rw5 (k + 1) := by rw [hws]; rfl
        have hou : outW X (k + 1) = outW X k ++ ft X ws := by rw [hws]; rfl
        rw [← hws] at HI hrl ⊢
        obtain ⟨m, hm⟩ : ∃ m, m = ws.length := ⟨_, rfl⟩
        have hm16 : m ≤ 16 := by omega
        have HM := hide hm.symm
        have HNX := hide hnx
        have HOU := hide hou
        have HOL : Hid ((outW X k).length ≤ 16) := hide (by omega)
        rw [← hm] at HI ⊢
        obtain ⟨o, ho⟩ : ∃ o, o = outW X k := ⟨_, rfl⟩
        rw [← ho] at HI HOU HOL ⊢
        clear hws hnx hou hm hrl hp hol hk1 ho
        go_wp2
        go_loopw [7, 31] (fun v i wr => ∃ j : Nat, j ≤ m ∧ i = .int .i64 j ∧ Hid (InW w wr v (.slice a2 m q2) (o ++ ft X (ws.take j)) ws)) (fun _ i _ => m - (intOf i).toNat)
        case atStart => exact ⟨0, by omega, rfl, by simpa [ft] using HI⟩
        case round =>
          obtain ⟨j, hj, rfl, HJ⟩ := hrel
          obtain ⟨a3, q3, rfl, _, _⟩ := own_formT HJ.out.out
          by_cases hjt : j < m
          · have hjtI : (j : Int) < (m : Int) := by omega
            obtain ⟨b, off, rfl, hc⟩ := (own_slT (by have := HJ.out.row; rw [HM.out] at this; exact this)) j (by rw [HM.out]; exact hjt)
            have htk := ft_take X ws j (by rw [HM.out]; exact hjt)
            have hsz := HW.out _ (getT_mem ws j (by rw [HM.out]; exact hjt))
            have hfl := ft_len X (ws.take j)
            have hfl2 : (ws.take j).length ≤ m := by rw [← HM.out]; exact List.length_take_le' _ _
            have HO3 : Hid ((o ++ ft X (ws.take j)).length ≤ 40) := hide (by rw [List.length_append]; have := HOL.out; omega)
            obtain ⟨s, hs⟩ : ∃ s, s = ws.getD j e0 := ⟨_, rfl⟩
            rw [← hs] at hc htk hsz
            by_cases hfit : Mt X (bts s 0)
            · have C4 := hide (fun w => fits_any X s hsz w true (iff_of_true rfl hfit))
              rw [ft_yes hfit] at htk
              have hE : o ++ ft X (ws.take (j + 1)) = o ++ ft X (ws.take j) ++ [s] := by rw [htk, List.append_assoc]
              have HE := hide hE
              obtain ⟨oo, hoo⟩ : ∃ oo, oo = o ++ ft X (ws.take j) := ⟨_, rfl⟩
              rw [← hoo] at HJ HE HO3 ⊢
              clear hs htk hfl hfl2 hfit hE hoo hsz
              go_wp2_with fail
              refine (C4.out _).mono ?_
              rintro e w4 ⟨rfl, hb4⟩
              have H4 := hide (HJ.out.below hb4)
              clear hb4 hc
              have hO3 := HO3.out
              go_wp2_with (first
                | (at_builtin; refine wpList_append_own_at _ rfl _ _ 34 rfl w.heap.size 9 i1 (.string ByteArray.empty) 1 16 Try.underlying34 hi1 hy0 hy1 hy2 rfl (by decide) _ _ _ rfl (H4.out.out.alloc _) ⟨w4.heap.size, 0, none⟩ 1 1 [.string s] rfl rfl (cell_one_newT _ _ rfl _ _) (by intro u hu; simp at hu; subst hu; rfl) (by unfold maxLen; omega) (by omega) (by have := H4.out.bel.size; simp; omega) ?_)
                | go_in)
              intro v6 w6 h6 g6 _ hat
              have H6 := hide (H4.out.more h6 g6 hat)
              rw [← HE.out] at H6
              obtain ⟨a6, c6, rfl⟩ := own_shapeT h6
              clear h6 g6 hat
              go_wp2
              go_roundw
              case rel => exact ⟨j + 1, by omega, by go_num, H6⟩
              case measure => simp [intOf]; omega
            · have C4 := hide (fun w => fits_any X s hsz w false (iff_of_false (by simp) hfit))
              rw [ft_no hfit, List.append_nil] at htk
              rw [← htk] at HJ ⊢
              obtain ⟨oo, hoo⟩ : ∃ oo, oo = o ++ ft X (ws.take (j + 1)) := ⟨_, rfl⟩
              have HE := hide hoo
              rw [← hoo] at HJ ⊢
              clear hs htk hfl hfl2 hfit hsz hoo
              go_wp2_with fail
              refine (C4.out _).mono ?_
              rintro e w4 ⟨rfl, hb4⟩
              have H4 := hide (HJ.out.below hb4)
              clear hb4 hc
              go_wp2
              go_roundw
              case rel => exact ⟨j + 1, by omega, by go_num, by rw [← HE.out]; exact H4⟩
              case measure => simp [intOf]; omega
          · obtain rfl : j = m := by omega
            have hjtI : ¬ (j : Int) < (j : Int) := by omega
            have e1 : ws.take j = ws := List.take_of_length_le (by rw [HM.out]; exact Nat.le_refl _)
            rw [e1] at HJ ⊢
            rw [← HOU.out] at HJ ⊢
            have C5 := hide (longerWords_any a2 ws j q2 wr HM.out (by omega) (fun s h => by have := HW.out s h; omega) (own_slT (by have := HJ.out.row; rw [HM.out] at this; exact this)))
            rw [HNX.out] at C5
            clear e1
            go_wp2_with fail
            refine C5.out.mono ?_
            rintro e w5 ⟨v5, rfl, o5, hb5⟩
            have H5 := hide (HJ.out.next o5 hb5)
            obtain ⟨a5, c5, rfl⟩ := own_shapeT o5
            clear o5 hb5
            go_wp2
            go_roundw
            case rel => exact ⟨k + 1, by omega, by go_num, H5⟩
            case measure => simp [intOf]; omega
      · obtain rfl : k = L + 1 := by omega
        have hltI : ¬ ((L + 1 : Nat) : Int) < (L : Int) + 1 := by omega
        clear hrl hp hol hk1
        go_wp2
        go_ret2
        rw [HR.out]
        exact ⟨_, rfl, HI.out.out, HI.out.bel⟩
  · have C1 := hide (goodForm_any a l n cap w hn hs hn2 hst false (iff_of_false (by simp) hg))
    have hr' : r = none := by rw [hr]; unfold wordsRes; rw [if_neg (fun h => hg h.1)]
    subst hr'
    clear hr hn hs hst hg
    go_enter Try.func19, Try.ntmps19
    go_wp2_with fail
    refine C1.out.mono ?_
    rintro e w1 ⟨rfl, hb1⟩
    go_wp2
    go_ret2
    exact retW_none hb1
end Go.Proofs.Ytkdiffpbljohkay.L5
