/-
  Contracts: impl.AppendChunk and spec.AppendChunk: the text of a text's samples and one behind, where all is good.
-/
import Derived.Test.YtapffbbmofhpoaaDoorL2EncMath
namespace Go.Proofs.YtapffbbmofhpoaaDoor.L1
open Go.RowKit
set_option linter.unusedVariables false

set_option maxRecDepth 100000 in
set_option maxHeartbeats 1000000 in
theorem appendChunk_any (s : ByteArray) (x y : Int) (w : World) (hs : s.size ≤ 1048576) (ht : Tab w) :
    Calls Tryd.prog 42 #[.string s, .agg #[.int .i64 x, .int .i64 y]] w fun e w' => e = .returned (.tuple #[.string (encT (both (dcRes (bts s 0)) (some [(x, y)]))), .bool (encB (both (dcRes (bts s 0)) (some [(x, y)])))]) ∧ Below w.heap.size w w' := by
  obtain ⟨W0, hW0⟩ : ∃ W0, W0 = w.alloc (.cells #[.int .i64 x, .int .i64 y] 50) := ⟨_, rfl⟩
  have hb0 : Below w.heap.size w W0 := by rw [hW0]; exact (Below.refl _ _).alloc (Nat.le_refl _) _
  have hx0 : W0.cell? ⟨w.heap.size, 0, none⟩ = some (.int .i64 x) := by rw [hW0]; simp
  have hy00 : W0.cell? ⟨w.heap.size, 1, none⟩ = some (.int .i64 y) := by rw [hW0]; simp
  have HX0 := hide hx0
  have HY0 := hide hy00
  have HB0 := hide hb0
  have HW0 := hide hW0
  have c1 := decodeChunk_any s W0 hs (ht.below hb0)
  clear hx0 hy00 hb0 hW0
  have hl1 := dcRes_len (t := bts s 0) (bts_mem s 0)
  have HT := hide ht
  clear ht
  obtain ⟨i1, hi1, hy0, hy1, hy2⟩ := info_parts info_smpS
  cases hda : dcRes (bts s 0) with
  | none =>
    rw [hda] at c1
    simp only [RetS, Option.isSome_none, Option.getD_none] at c1
    rw [both_left, encT_none, encB_none]
    have C1 := hide c1
    clear c1 hda hl1
    go_enter Tryd.func42, Tryd.ntmps42
    go_wp2_with fail
    rw [← HW0.out]
    refine C1.out.mono ?_
    rintro e w1 ⟨v1, rfl, ho1, hb1⟩
    obtain ⟨fa, fc, rfl, _, _⟩ := own_formS ho1
    clear ho1
    go_wp2
    go_ret2
    exact ⟨rfl, HB0.out.trans (hb1.mono HB0.out.size)⟩
  | some l =>
    rw [hda] at c1 hl1
    simp only [RetS, Option.isSome_some, Option.getD_some] at c1 hl1
    obtain ⟨n1, hn1⟩ : ∃ n, n = l.length := ⟨_, rfl⟩
    rw [← hn1] at c1 hl1
    obtain ⟨T, OK, hTE, CE⟩ : ∃ (T : ByteArray) (OK : Bool), (T = encT (both (some l) (some [(x, y)])) ∧ OK = encB (both (some l) (some [(x, y)]))) ∧ Hid (∀ (z : Option Addr) (cap : Nat) (w : World), Sl2 w z (l ++ [(x, y)]) → Tab w → Calls Tryd.prog 35 #[.slice z (n1 + 1) cap] w fun e w' => e = .returned (.tuple #[.string T, .bool OK]) ∧ Below w.heap.size w w') := by
      by_cases hg : GoodS (l ++ [(x, y)])
      · exact ⟨_, _, ⟨(encT_yes hg).symm, (encB_yes hg).symm⟩, fun z cap w hs ht => encodeChunk_yes z (l ++ [(x, y)]) (n1 + 1) cap w (by rw [List.length_append, hn1]; rfl) hs hg ht⟩
      · exact ⟨_, _, ⟨(encT_no hg).symm, (encB_no hg).symm⟩, fun z cap w hs _ => encodeChunk_no z (l ++ [(x, y)]) (n1 + 1) cap w (by rw [List.length_append, hn1]; rfl) hs (by omega) hg⟩
    rw [← hTE.1, ← hTE.2]
    have C1 := hide c1
    clear c1 hda hTE hn1
    go_enter Tryd.func42, Tryd.ntmps42
    go_wp2_with fail
    rw [← HW0.out]
    refine C1.out.mono ?_
    rintro e w1 ⟨v1, rfl, ho1, hb1⟩
    obtain ⟨fa, fc, rfl, _, _⟩ := own_formS ho1
    have O1 := hide (own_baseS ho1 HB0.out.size)
    have hx1 := (hb1.cell (p := ⟨w.heap.size, 0, none⟩) (blk_lt HX0.out)).trans HX0.out
    have hy1' := (hb1.cell (p := ⟨w.heap.size, 1, none⟩) (blk_lt HY0.out)).trans HY0.out
    have B1 := hide (HB0.out.trans (hb1.mono HB0.out.size))
    have hsz := B1.out.size
    clear ho1 hb1
    go_wp2_with (first
      | (at_builtin; refine wpList_append_own _ rfl _ _ 41 rfl w.heap.size 50 i1 (.agg #[.int .i64 0, .int .i64 0]) 2 16 Tryd.underlying41 hi1 hy0 hy1 hy2 rfl (by decide) _ _ _ rfl (O1.out.alloc _) ⟨w1.heap.size, 0, none⟩ 1 1 [.int .i64 x, .int .i64 y] rfl rfl (cell_two_newS _ _ _ _) (by intro u hu; simp at hu; rcases hu with rfl | rfl <;> rfl) (by unfold maxLen; omega) (by omega) (by simp; omega) ?_)
      | go_in)
    intro v6 w6 hown6 hgrow6 _
    have hb6 : Below w.heap.size w1 w6 := below_app hsz hgrow6 (fun g hg => (O1.out.lt g hg).1)
    have hown7 : w6.ownsRow w.heap.size 50 2 v6 (n1 + 1) (flat2 (l ++ [(x, y)])) := by rw [flat2_append]; simpa [flat2] using hown6
    obtain ⟨v6a, v6c, rfl, sl6, _⟩ := own_formS hown7
    have S6 := hide sl6
    have B6 := hide (B1.out.trans hb6)
    clear hown6 hgrow6 sl6 hb6 hown7
    go_wp2_with fail
    refine (CE.out _ _ _ S6.out (HT.out.below B6.out)).mono ?_
    rintro e w7 ⟨rfl, hb7⟩
    have B7 := hide (B6.out.trans (hb7.mono B6.out.size))
    clear hb7
    go_wp2
    go_ret2
    exact ⟨rfl, B7.out⟩

set_option maxRecDepth 100000 in
set_option maxHeartbeats 1000000 in
theorem specAppend_any (s : ByteArray) (x y : Int) (w : World) (hs : s.size ≤ 1048576) :
    Calls Tryd.prog 55 #[.string s, .agg #[.int .i64 x, .int .i64 y]] w fun e w' => e = .returned (.tuple #[.string (encT (both (dcRes (bts s 0)) (some [(x, y)]))), .bool (encB (both (dcRes (bts s 0)) (some [(x, y)])))]) ∧ Below w.heap.size w w' := by
  obtain ⟨W0, hW0⟩ : ∃ W0, W0 = w.alloc (.cells #[.int .i64 x, .int .i64 y] 50) := ⟨_, rfl⟩
  have hb0 : Below w.heap.size w W0 := by rw [hW0]; exact (Below.refl _ _).alloc (Nat.le_refl _) _
  have hx0 : W0.cell? ⟨w.heap.size, 0, none⟩ = some (.int .i64 x) := by rw [hW0]; simp
  have hy00 : W0.cell? ⟨w.heap.size, 1, none⟩ = some (.int .i64 y) := by rw [hW0]; simp
  have HX0 := hide hx0
  have HY0 := hide hy00
  have HB0 := hide hb0
  have HW0 := hide hW0
  have c1 := specDecode_any s W0 hs
  clear hx0 hy00 hb0 hW0
  have hl1 := dcRes_len (t := bts s 0) (bts_mem s 0)
  obtain ⟨i1, hi1, hy0, hy1, hy2⟩ := info_parts info_smpS
  cases hda : dcRes (bts s 0) with
  | none =>
    rw [hda] at c1
    simp only [RetS, Option.isSome_none, Option.getD_none] at c1
    rw [both_left, encT_none, encB_none]
    have C1 := hide c1
    clear c1 hda hl1
    go_enter Tryd.func55, Tryd.ntmps55
    go_wp2_with fail
    rw [← HW0.out]
    refine C1.out.mono ?_
    rintro e w1 ⟨v1, rfl, ho1, hb1⟩
    obtain ⟨fa, fc, rfl, _, _⟩ := own_formS ho1
    clear ho1
    go_wp2
    go_ret2
    exact ⟨rfl, HB0.out.trans (hb1.mono HB0.out.size)⟩
  | some l =>
    rw [hda] at c1 hl1
    simp only [RetS, Option.isSome_some, Option.getD_some] at c1 hl1
    obtain ⟨n1, hn1⟩ : ∃ n, n = l.length := ⟨_, rfl⟩
    rw [← hn1] at c1 hl1
    obtain ⟨T, OK, hTE, CE⟩ : ∃ (T : ByteArray) (OK : Bool), (T = encT (both (some l) (some [(x, y)])) ∧ OK = encB (both (some l) (some [(x, y)]))) ∧ Hid (∀ (z : Option Addr) (cap : Nat) (w : World), Sl2 w z (l ++ [(x, y)]) → Calls Tryd.prog 36 #[.slice z (n1 + 1) cap] w fun e w' => e = .returned (.tuple #[.string T, .bool OK]) ∧ Below w.heap.size w w') := by
      by_cases hg : GoodS (l ++ [(x, y)])
      · exact ⟨_, _, ⟨(encT_yes hg).symm, (encB_yes hg).symm⟩, fun z cap w hs => specEncode_yes z (l ++ [(x, y)]) (n1 + 1) cap w (by rw [List.length_append, hn1]; rfl) hs hg⟩
      · exact ⟨_, _, ⟨(encT_no hg).symm, (encB_no hg).symm⟩, fun z cap w hs => specEncode_no z (l ++ [(x, y)]) (n1 + 1) cap w (by rw [List.length_append, hn1]; rfl) hs (by omega) hg⟩
    rw [← hTE.1, ← hTE.2]
    have C1 := hide c1
    clear c1 hda hTE hn1
    go_enter Tryd.func55, Tryd.ntmps55
    go_wp2_with fail
    rw [← HW0.out]
    refine C1.out.mono ?_
    rintro e w1 ⟨v1, rfl, ho1, hb1⟩
    obtain ⟨fa, fc, rfl, _, _⟩ := own_formS ho1
    have O1 := hide (own_baseS ho1 HB0.out.size)
    have hx1 := (hb1.cell (p := ⟨w.heap.size, 0, none⟩) (blk_lt HX0.out)).trans HX0.out
    have hy1' := (hb1.cell (p := ⟨w.heap.size, 1, none⟩) (blk_lt HY0.out)).trans HY0.out
    have B1 := hide (HB0.out.trans (hb1.mono HB0.out.size))
    have hsz := B1.out.size
    clear ho1 hb1
    go_wp2_with (first
      | (at_builtin; refine wpList_append_own _ rfl _ _ 41 rfl w.heap.size 50 i1 (.agg #[.int .i64 0, .int .i64 0]) 2 16 Tryd.underlying41 hi1 hy0 hy1 hy2 rfl (by decide) _ _ _ rfl (O1.out.alloc _) ⟨w1.heap.size, 0, none⟩ 1 1 [.int .i64 x, .int .i64 y] rfl rfl (cell_two_newS _ _ _ _) (by intro u hu; simp at hu; rcases hu with rfl | rfl <;> rfl) (by unfold maxLen; omega) (by omega) (by simp; omega) ?_)
      | go_in)
    intro v6 w6 hown6 hgrow6 _
    have hb6 : Below w.heap.size w1 w6 := below_app hsz hgrow6 (fun g hg => (O1.out.lt g hg).1)
    have hown7 : w6.ownsRow w.heap.size 50 2 v6 (n1 + 1) (flat2 (l ++ [(x, y)])) := by rw [flat2_append]; simpa [flat2] using hown6
    obtain ⟨v6a, v6c, rfl, sl6, _⟩ := own_formS hown7
    have S6 := hide sl6
    have B6 := hide (B1.out.trans hb6)
    clear hown6 hgrow6 sl6 hb6 hown7
    go_wp2_with fail
    refine (CE.out _ _ _ S6.out).mono ?_
    rintro e w7 ⟨rfl, hb7⟩
    have B7 := hide (B6.out.trans (hb7.mono B6.out.size))
    clear hb7
    go_wp2
    go_ret2
    exact ⟨rfl, B7.out⟩
end Go.Proofs.YtapffbbmofhpoaaDoor.L1
