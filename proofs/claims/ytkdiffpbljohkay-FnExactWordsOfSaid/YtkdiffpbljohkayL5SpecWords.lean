/-
  Contract: spec.WordsOf: the texts of two letters that fit a good form, row by row.
-/
import Derived.Test.YtkdiffpbljohkayL5Words
import Derived.Test.YtkdiffpbljohkayL5SpecFits
import Derived.Test.YtkdiffpbljohkayL5SpecGood
import Derived.Test.YtkdiffpbljohkayL4In
namespace Go.Proofs.Ytkdiffpbljohkay.L5
open Go.RowKit L1 L4
set_option linter.unusedVariables false

theorem own_baseT {w : World} {b1 b2 c n : Nat} {t : TypeId} {v : Value} {xs : List Value} (h : w.ownsRow b1 t c v n xs) (hb : b2 ≤ b1) : w.ownsRow b2 t c v n xs := by
  refine ⟨h.1, ?_⟩
  rcases h.2 with h0 | ⟨g, cap, cur, hv, hg, rest⟩
  · exact .inl h0
  · exact .inr ⟨g, cap, cur, hv, Nat.le_trans hb hg, rest⟩
/-- What the model's inner round keeps: what is out, the row that is read, the row that comes, in blocks apart. -/
structure IM (w wr : World) (v u x : Value) (o ws ns : List ByteArray) : Prop where
  two : InW w wr v u o ws
  nxt : wr.ownsRow w.heap.size 9 1 x ns.length (mapT ns)
  ap1 : ∀ g, u.ownBlock = some g → x.ownBlock ≠ some g
  ap2 : ∀ g, v.ownBlock = some g → x.ownBlock ≠ some g
theorem IM.below {w wr w' : World} {v u x : Value} {o ws ns : List ByteArray} (h : IM w wr v u x o ws ns) (hb : Below wr.heap.size wr w') : IM w w' v u x o ws ns :=
  ⟨h.two.below hb, own_belowT h.nxt hb, h.ap1, h.ap2⟩
theorem IM.start {w wr : World} {v u : Value} {o ws : List ByteArray} (h : InW w wr v u o ws) : IM w wr v u (.slice none 0 0) o ws [] :=
  ⟨h, World.ownsRow_nil _ _ _ _, (fun g _ e => by cases e), (fun g _ e => by cases e)⟩
theorem IM.turn {w wr : World} {v u x : Value} {o ws ns : List ByteArray} (h : IM w wr v u x o ws ns) : InW w wr v x o ns :=
  ⟨h.two.out, h.nxt, fun g hg e => h.ap2 g e hg, h.two.bel⟩
theorem IM.more {w wr w6 : World} {v v6 u x : Value} {o ws ns : List ByteArray} {s : ByteArray} {ob : Obj} (h : IM w wr v u x o ws ns) (h6 : w6.ownsRow w.heap.size 9 1 v6 (o.length + 1) (mapT o ++ [.string s])) (g6 : (wr.alloc ob).grownBy w6 v.ownBlock) (hat : v6.ownBlock = v.ownBlock ∨ v6.ownBlock = some (wr.heap.size + 1)) : IM w w6 v6 u x (o ++ [s]) ws ns := by
  refine ⟨h.two.more h6 g6 hat, own_grownT (h.nxt.alloc ob) g6 (fun g hg e => h.ap2 g e hg), h.ap1, ?_⟩
  intro g hg e
  rcases hat with e2 | e2
  · exact h.ap2 g (e2 ▸ hg) e
  · rw [e2] at hg
    cases hg
    have := (h.nxt.lt _ e).2
    omega
theorem IM.grow {w wr w6 : World} {v u x x6 : Value} {o ws ns : List ByteArray} {s : ByteArray} {ob : Obj} (h : IM w wr v u x o ws ns) (h6 : w6.ownsRow w.heap.size 9 1 x6 (ns.length + 2) (mapT ns ++ [.string (s ++ ⟨#[97]⟩), .string (s ++ ⟨#[98]⟩)])) (g6 : (wr.alloc ob).grownBy w6 x.ownBlock) (hat : x6.ownBlock = x.ownBlock ∨ x6.ownBlock = some (wr.heap.size + 1)) : IM w w6 v u x6 o ws (ns ++ L5.two s) := by
  have hz := h.two.bel.size
  have ha : (wr.alloc ob).heap.size = wr.heap.size + 1 := by simp
  refine ⟨⟨own_grownT (h.two.out.alloc ob) g6 (fun g hg => h.ap2 g hg), own_grownT (h.two.row.alloc ob) g6 (fun g hg => h.ap1 g hg), h.two.apart, (h.two.bel.alloc hz ob).grown g6 (by omega) (fun k hk => (h.nxt.lt k hk).1)⟩, ?_, ?_, ?_⟩
  · rw [mapT_app, List.length_append]
    exact h6
  · intro g hg e
    rcases hat with e2 | e2
    · exact h.ap1 g hg (e2 ▸ e)
    · rw [e2] at e
      cases e
      have := (h.two.row.lt _ hg).2
      omega
  · intro g hg e
    rcases hat with e2 | e2
    · exact h.ap2 g hg (e2 ▸ e)
    · rw [e2] at e
      cases e
      have := (h.two.out.lt _ hg).2
      omega
theorem tr_in {w wr : World} {p : Option Addr} {x : Sh} (h : Tr w Any p x) (hb : Below w.heap.size w wr) : Tr wr Any p x := h.below hb
set_option maxRecDepth 100000 in
set_option maxHeartbeats 8000000 in
theorem specWordsOf_any (a : Option Addr) (l : List Pr) (n cap : Nat) (long : Int) (w : World) (hn : l.length = n) (hs : SlP w a l) (hn2 : n ≤ 1048576) (hst : TxP l) (r : Option (List ByteArray)) (hr : r = wordsRes l long) :
    Calls Try.prog 18 #[.slice a n cap, .int .i64 long] w fun e w' => RetW w r e w' := by
  obtain ⟨i1, hi1, hy0, hy1, hy2⟩ := info_parts info_str5
  by_cases hg : GoodF l
  · have C1 := hide (specGoodForm_any a l n cap w hn hs hn2 hst true (iff_of_true rfl hg))
    by_cases hl : 0 ≤ long ∧ long ≤ 3
    · have C2 := hide (fun w => l1In_any long 0 3 w true (iff_of_true rfl hl))
      obtain ⟨L, rfl⟩ : ∃ L : Nat, long = (L : Int) := ⟨long.toNat, by omega⟩
      have hL : L ≤ 3 := by omega
      have hr' : r = some (outW (whole l) (L + 1)) := by
        rw [hr]; unfold wordsRes
        rw [if_pos ⟨hg, by omega, by omega⟩]
        simp
      have C3 := hide (fun w hs => l5Tree_whole a l n cap w hn hg hs)
      have HOK := hide (okS_whole hg)
      have hnI : (1 : Int) ≤ (n : Int) := by have := hg.1; omega
      obtain ⟨X, hX⟩ : ∃ X, X = whole l := ⟨_, rfl⟩
      simp only [← hX] at C3 hr' HOK
      have HR := hide hr'
      have HS := hide hs
      clear hr hr' hn hs hst hg hX hl
      go_enter Try.func18, Try.ntmps18
      go_wp2_with fail
      refine C1.out.mono ?_
      rintro e w1 ⟨rfl, hb1⟩
      have B1 := hide hb1
      clear hb1
      go_wp2_with fail
      refine (C2.out _).mono ?_
      rintro e w1 ⟨rfl, rfl⟩
      go_wp2_with fail
      refine (C3.out _ (HS.out.below B1.out)).mono ?_
      rintro e w2 ⟨p2, rfl, t2, hb2⟩
      have B2 := hide (B1.out.trans (hb2.mono B1.out.size))
      have T2 := hide t2.any
      clear hb2 t2
      have ST : Hid (InW w2 (w2.alloc (.cells #[.string ByteArray.empty] 9)) (.slice none 0 0) (.slice (some ⟨w2.heap.size, 0, none⟩) 1 1) (outW X 0) (rw5 0)) := hide ⟨World.ownsRow_nil _ _ _ _, own_litT w2 ByteArray.empty _ (Nat.le_refl _), (fun g _ e => by cases e), (Below.refl _ _).alloc (Nat.le_refl _) _⟩
      go_wp2
      go_loopw [7, 8, 9] (fun u v i wr => ∃ k : Nat, k ≤ L + 1 ∧ i = .int .i64 k ∧ Hid (InW w2 wr v u (outW X k) (rw5 k))) (fun _ _ i _ => L + 1 - (intOf i).toNat)
      case atStart => exact ⟨0, by omega, rfl, ST⟩
      case round =>
        obtain ⟨k, hk, rfl, HI⟩ := hrel
        obtain ⟨a1, q1, rfl, _, _⟩ := own_formT HI.out.out
        obtain ⟨a2, q2, rfl, _, _⟩ := own_formT HI.out.row
        have hrl := rw5_len k
        have hp := pow_small (k := k) (by omega)
        have hol := outW_len X k
        by_cases hlt : k < L + 1
        · have hltI : (k : Int) ≤ (L : Int) := by omega
          obtain ⟨ws, hws⟩ : ∃ ws, ws = rw5 k := ⟨_, rfl⟩
          have HW := hide (fun s (h : s ∈ ws) => size_fits (n := k) (s := s) (by rw [← hws]; exact h) (by omega))
          have hnx : nx ws = rw5 (k + 1) := by rw [hws]; rfl
          have hou : outW X (k + 1) = outW X k ++ ft X ws := by rw [hws]; rfl
          rw [← hws] at HI hrl ⊢
          obtain ⟨m, hm⟩ : ∃ m, m = ws.length := ⟨_, rfl⟩
          have hm16 : m ≤ 16 := by omega
          have HM := hide hm.symm
          have HNX := hide hnx
          have HOU := hide hou
          have HOL : Hid ((outW X k).length ≤ 16) := hide (by omega)
          rw [← hm] at HI ⊢
          obtain ⟨o, ho⟩ : ∃ o, o = outW X k := ⟨_, rfl⟩
          rw [← ho] at HI HOU HOL ⊢
          clear hws hnx hou hm hrl hp hol ho
          go_wp2
          go_loopw [8, 10, 34] (fun v x i wr => ∃ j : Nat, j ≤ m ∧ i = .int .i64 j ∧ Hid (IM w2 wr v (.slice a2 m q2) x (o ++ ft X (ws.take j)) ws (nx (ws.take j)))) (fun _ _ i _ => m - (intOf i).toNat)
          case atStart => exact ⟨0, by omega, rfl, by simpa [ft, nx] using hide (IM.start HI.out)⟩
          case round =>
            obtain ⟨j, hj, rfl, HJ⟩ := hrel
            obtain ⟨a3, q3, rfl, _, _⟩ := own_formT HJ.out.two.out
            obtain ⟨a4, q4, rfl, _, _⟩ := own_formT HJ.out.nxt
            by_cases hjt : j < m
            · have hjtI : (j : Int) < (m : Int) := by omega
              obtain ⟨b, off, rfl, hc⟩ := (own_slT (by have := HJ.out.two.row; rw [HM.out] at this; exact this)) j (by rw [HM.out]; exact hjt)
              have htk := ft_take X ws j (by rw [HM.out]; exact hjt)
              have hnk := congrArg nx (takeT_snoc ws j (by rw [HM.out]; exact hjt))
              rw [nx_snoc] at hnk
              have hsz := HW.out _ (getT_mem ws j (by rw [HM.out]; exact hjt))
              have hfl := ft_len X (ws.take j)
              have hfl2 : (ws.take j).length ≤ m := by rw [← HM.out]; exact List.length_take_le' _ _
              have hnl := nx_len (ws.take j)
              have hO3 : (o ++ ft X (ws.take j)).length ≤ 40 := by rw [List.length_append]; have := HOL.out; omega
              have hN3 : (nx (ws.take j)).length ≤ 40 := by omega
              obtain ⟨s, hs⟩ : ∃ s, s = ws.getD j e0 := ⟨_, rfl⟩
              rw [← hs] at hc htk hsz hnk
              obtain ⟨nn, hnn⟩ : ∃ nn, nn = nx (ws.take j) := ⟨_, rfl⟩
              rw [← hnn] at hnk HJ hN3 ⊢
              have HNK := hide hnk
              have q0 : ∀ w : World, (Op.stringOp .add s (⟨#[97]⟩ : ByteArray)).run Try.prog w = .ok (.string (s ++ (⟨#[97]⟩ : ByteArray))) w := fun w => run_string_add_sum w _ _ (by show s.size + 1 ≤ _; omega)
              have q1 : ∀ w : World, (Op.stringOp .add s (⟨#[98]⟩ : ByteArray)).run Try.prog w = .ok (.string (s ++ (⟨#[98]⟩ : ByteArray))) w := fun w => run_string_add_sum w _ _ (by show s.size + 1 ≤ _; omega)
              have HT := hide (tr_in T2.out HJ.out.two.bel)
              by_cases hfit : Mt X (bts s 0)
              · have C4 := hide (fun p w t => l5Fits_any X s p w HOK.out (by omega) t true (iff_of_true rfl hfit))
                rw [ft_yes hfit] at htk
                have hE : o ++ ft X (ws.take (j + 1)) = o ++ ft X (ws.take j) ++ [s] := by rw [htk, List.append_assoc]
                have HE := hide hE
                obtain ⟨oo, hoo⟩ : ∃ oo, oo = o ++ ft X (ws.take j) := ⟨_, rfl⟩
                rw [← hoo] at HJ HE hO3 ⊢
                clear hs htk hfl hfl2 hfit hE hoo hsz hnk hnn hnl
                go_wp2_with fail
                refine (C4.out _ _ HT.out).mono ?_
                rintro e w4 ⟨rfl, hb4⟩
                have H4 := hide (HJ.out.below hb4)
                clear hb4 hc HT
                go_wp2_with (first
                  | (at_builtin; refine wpList_append_own_at _ rfl _ _ 34 rfl w2.heap.size 9 i1 (.string ByteArray.empty) 1 16 Try.underlying34 hi1 hy0 hy1 hy2 rfl (by decide) _ _ _ rfl (H4.out.two.out.alloc _) ⟨w4.heap.size, 0, none⟩ 1 1 [.string s] rfl rfl (cell_one_newT _ _ rfl _ _) (by intro u hu; simp at hu; subst hu; rfl) (by unfold maxLen; omega) (by omega) (by have := H4.out.two.bel.size; simp; omega) ?_)
                  | go_in)
                intro v6 w6 h6 g6 _ hat
                have H6 := hide (H4.out.more h6 g6 hat)
                obtain ⟨a6, c6, rfl⟩ := own_shapeT h6
                clear h6 g6 hat
                go_wp2_with (first
                  | (at_builtin; refine wpList_append_own_at _ rfl _ _ 34 rfl w2.heap.size 9 i1 (.string ByteArray.empty) 1 16 Try.underlying34 hi1 hy0 hy1 hy2 rfl (by decide) _ _ _ rfl (H6.out.nxt.alloc _) ⟨w6.heap.size, 0, none⟩ 2 2 [.string (s ++ ⟨#[97]⟩), .string (s ++ ⟨#[98]⟩)] rfl rfl (cell_two_newT _ _ rfl _ _ _) (by intro u hu; simp at hu; rcases hu with rfl | rfl <;> rfl) (by unfold maxLen; omega) (by omega) (by have := H6.out.two.bel.size; simp; omega) ?_)
                  | go_in)
                intro v7 w7 h7 g7 _ hat
                have H7 := hide (H6.out.grow h7 g7 hat)
                rw [← HE.out, ← HNK.out] at H7
                obtain ⟨a7, c7, rfl⟩ := own_shapeT h7
                clear h7 g7 hat
                go_wp2
                go_roundw
                case rel => exact ⟨j + 1, by omega, by go_num, H7⟩
                case measure => simp [intOf]; omega
              · have C4 := hide (fun p w t => l5Fits_any X s p w HOK.out (by omega) t false (iff_of_false (by simp) hfit))
                rw [ft_no hfit, List.append_nil] at htk
                rw [← htk] at HJ ⊢
                obtain ⟨oo, hoo⟩ : ∃ oo, oo = o ++ ft X (ws.take (j + 1)) := ⟨_, rfl⟩
                have HE := hide hoo
                rw [← hoo] at HJ ⊢
                clear hs htk hfl hfl2 hfit hoo hsz hnk hnn hnl hO3
                go_wp2_with fail
                refine (C4.out _ _ HT.out).mono ?_
                rintro e w4 ⟨rfl, hb4⟩
                have H4 := hide (HJ.out.below hb4)
                clear hb4 hc HT
                go_wp2_with (first
                  | (at_builtin; refine wpList_append_own_at _ rfl _ _ 34 rfl w2.heap.size 9 i1 (.string ByteArray.empty) 1 16 Try.underlying34 hi1 hy0 hy1 hy2 rfl (by decide) _ _ _ rfl (H4.out.nxt.alloc _) ⟨w4.heap.size, 0, none⟩ 2 2 [.string (s ++ ⟨#[97]⟩), .string (s ++ ⟨#[98]⟩)] rfl rfl (cell_two_newT _ _ rfl _ _ _) (by intro u hu; simp at hu; rcases hu with rfl | rfl <;> rfl) (by unfold maxLen; omega) (by omega) (by have := H4.out.two.bel.size; simp; omega) ?_)
                  | go_in)
                intro v7 w7 h7 g7 _ hat
                have H7 := hide (H4.out.grow h7 g7 hat)
                rw [HE.out, ← HNK.out] at H7
                rw [HE.out]
                obtain ⟨a7, c7, rfl⟩ := own_shapeT h7
                clear h7 g7 hat
                go_wp2
                go_roundw
                case rel => exact ⟨j + 1, by omega, by go_num, by simpa using H7⟩
                case measure => simp [intOf]; omega
            · obtain rfl : j = m := by omega
              have hjtI : ¬ (j : Int) < (j : Int) := by omega
              have e1 : ws.take j = ws := List.take_of_length_le (by rw [HM.out]; exact Nat.le_refl _)
              rw [e1] at HJ ⊢
              rw [← HOU.out, HNX.out] at HJ
              rw [← HOU.out, HNX.out]
              have H5 := hide HJ.out.turn
              clear e1
              go_wp2
              go_roundw
              case rel => exact ⟨k + 1, by omega, by go_num, H5⟩
              case measure => simp [intOf]; omega
        · obtain rfl : k = L + 1 := by omega
          have hltI : ¬ ((L + 1 : Nat) : Int) ≤ (L : Int) := by omega
          clear hrl hp hol
          go_wp2
          go_ret2
          rw [HR.out]
          exact ⟨_, rfl, own_baseT HI.out.out B2.out.size, B2.out.trans (HI.out.bel.mono B2.out.size)⟩
    · have C2 := hide (fun w => l1In_any long 0 3 w false (iff_of_false (by simp) hl))
      have hr' : r = none := by rw [hr]; unfold wordsRes; rw [if_neg (fun h => hl h.2)]
      subst hr'
      clear hr hn hs hst hg hl
      go_enter Try.func18, Try.ntmps18
      go_wp2_with fail
      refine C1.out.mono ?_
      rintro e w1 ⟨rfl, hb1⟩
      go_wp2_with fail
      refine (C2.out _).mono ?_
      rintro e w1 ⟨rfl, rfl⟩
      go_wp2
      go_ret2
      exact retW_none hb1
  · have C1 := hide (specGoodForm_any a l n cap w hn hs hn2 hst false (iff_of_false (by simp) hg))
    have hr' : r = none := by rw [hr]; unfold wordsRes; rw [if_neg (fun h => hg h.1)]
    subst hr'
    clear hr hn hs hst hg
    go_enter Try.func18, Try.ntmps18
    go_wp2_with fail
    refine C1.out.mono ?_
    rintro e w1 ⟨rfl, hb1⟩
    go_wp2
    go_ret2
    exact retW_none hb1
end Go.Proofs.Ytkdiffpbljohkay.L5
