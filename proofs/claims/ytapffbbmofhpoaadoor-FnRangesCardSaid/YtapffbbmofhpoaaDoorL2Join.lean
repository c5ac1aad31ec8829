/-
  Contracts: impl.JoinChunks and spec.JoinChunks: the text of the samples of two texts, one behind the other, where all is good.
-/
import Derived.Test.YtapffbbmofhpoaaDoorL2EncMath
namespace Go.Proofs.YtapffbbmofhpoaaDoor.L1
open Go.RowKit
set_option linter.unusedVariables false

theorem own_cap {w : World} {base n cap size : Nat} {e : TypeId} {a : Option Addr} {xs : List Value} (h : w.ownsRow base e size (.slice a n cap) n xs) : n ≤ cap := by
  rcases h.2 with ⟨hv, h0⟩ | ⟨g, cap', cur, hv, _, _, hle, _⟩
  · omega
  · cases hv; exact hle
theorem flat2_one : ∀ (m : List (Int × Int)), ∀ u ∈ flat2 m, u.oneCell' = true
  | [], u, h => by simp [flat2] at h
  | p :: m, u, h => by
    simp only [flat2, List.mem_cons] at h
    rcases h with rfl | rfl | h
    · rfl
    · rfl
    · exact flat2_one m u h

set_option maxRecDepth 100000 in
set_option maxHeartbeats 1000000 in
theorem joinChunks_any (a b : ByteArray) (w : World) (ha : a.size ≤ 1048576) (hb : b.size ≤ 1048576) (ht : Tab w) :
    Calls Tryd.prog 57 #[.string a, .string b] w fun e w' => e = .returned (.tuple #[.string (encT (both (dcRes (bts a 0)) (dcRes (bts b 0)))), .bool (encB (both (dcRes (bts a 0)) (dcRes (bts b 0))))]) ∧ Below w.heap.size w w' := by
  have c1 := decodeChunk_any a w ha ht
  have c2 := (fun w ht => decodeChunk_any b w hb ht)
  have hl1 := dcRes_len (t := bts a 0) (bts_mem a 0)
  have hl2 := dcRes_len (t := bts b 0) (bts_mem b 0)
  have HT := hide ht
  clear ht
  obtain ⟨i1, hi1, hy0, hy1, hy2⟩ := info_parts info_smpS
  cases hda : dcRes (bts a 0) with
  | none =>
    rw [hda] at c1
    simp only [RetS, Option.isSome_none, Option.getD_none] at c1
    rw [both_left, encT_none, encB_none]
    obtain ⟨r2, hr2⟩ : ∃ r2, r2 = dcRes (bts b 0) := ⟨_, rfl⟩
    simp only [← hr2] at c2
    have C1 := hide c1
    have C2 := hide c2
    clear c1 c2 hda hr2 hl1 hl2
    go_enter Tryd.func57, Tryd.ntmps57
    go_wp2_with fail
    refine C1.out.mono ?_
    rintro e w1 ⟨v1, rfl, ho1, hb1⟩
    obtain ⟨fa, fc, rfl, _, _⟩ := own_formS ho1
    have B1 := hide hb1
    clear ho1 hb1
    go_wp2
    go_ret2
    exact ⟨rfl, B1.out⟩
  | some l =>
    rw [hda] at c1 hl1
    simp only [RetS, Option.isSome_some, Option.getD_some] at c1 hl1
    cases hdb : dcRes (bts b 0) with
    | none =>
      simp only [hdb, RetS, Option.isSome_none, Option.getD_none] at c2
      rw [both_right, encT_none, encB_none]
      have C1 := hide c1
      have C2 := hide c2
      clear c1 c2 hda hdb hl1 hl2
      go_enter Tryd.func57, Tryd.ntmps57
      go_wp2_with fail
      refine C1.out.mono ?_
      rintro e w1 ⟨v1, rfl, ho1, hb1⟩
      obtain ⟨fa, fc, rfl, _, _⟩ := own_formS ho1
      have B1 := hide hb1
      clear ho1 hb1
      go_wp2_with fail
      refine (C2.out _ (HT.out.below B1.out)).mono ?_
      rintro e w2 ⟨v2, rfl, ho2, hb2⟩
      obtain ⟨ba, bc, rfl, _, _⟩ := own_formS ho2
      have B2 := hide (B1.out.trans (hb2.mono B1.out.size))
      clear ho2 hb2
      go_wp2
      go_ret2
      exact ⟨rfl, B2.out⟩
    | some m =>
      simp only [hdb, RetS, Option.isSome_some, Option.getD_some] at c2 hl2
      obtain ⟨n1, hn1⟩ : ∃ n, n = l.length := ⟨_, rfl⟩
      obtain ⟨n2, hn2⟩ : ∃ n, n = m.length := ⟨_, rfl⟩
      rw [← hn1] at c1 hl1
      simp only [← hn2] at c2
      rw [← hn2] at hl2
      obtain ⟨T, OK, hTE, CE⟩ : ∃ (T : ByteArray) (OK : Bool), (T = encT (both (some l) (some m)) ∧ OK = encB (both (some l) (some m))) ∧ Hid (∀ (x : Option Addr) (cap : Nat) (w : World), Sl2 w x (l ++ m) → Tab w → Calls Tryd.prog 35 #[.slice x (n1 + n2) cap] w fun e w' => e = .returned (.tuple #[.string T, .bool OK]) ∧ Below w.heap.size w w') := by
        by_cases hg : GoodS (l ++ m)
        · exact ⟨_, _, ⟨(encT_yes hg).symm, (encB_yes hg).symm⟩, fun x cap w hs ht => encodeChunk_yes x (l ++ m) (n1 + n2) cap w (by rw [List.length_append, hn1, hn2]) hs hg ht⟩
        · exact ⟨_, _, ⟨(encT_no hg).symm, (encB_no hg).symm⟩, fun x cap w hs _ => encodeChunk_no x (l ++ m) (n1 + n2) cap w (by rw [List.length_append, hn1, hn2]) hs (by omega) hg⟩
      rw [← hTE.1, ← hTE.2]
      have C1 := hide c1
      have C2 := hide c2
      have HM := hide hn2.symm
      clear c1 c2 hda hdb hTE hn1 hn2
      go_enter Tryd.func57, Tryd.ntmps57
      go_wp2_with fail
      refine C1.out.mono ?_
      rintro e w1 ⟨v1, rfl, ho1, hb1⟩
      obtain ⟨fa, fc, rfl, _, _⟩ := own_formS ho1
      have B1 := hide hb1
      have O1' := hide ho1
      clear ho1 hb1
      go_wp2_with fail
      refine (C2.out _ (HT.out.below B1.out)).mono ?_
      rintro e w2 ⟨v2, rfl, ho2, hb2⟩
      have O1 := hide (own_belowS O1'.out hb2)
      have B2 := hide (B1.out.trans (hb2.mono B1.out.size))
      clear hb2 O1'
      rcases ho2.2 with ⟨hv, h0⟩ | ⟨g, cap, cur, hv, _⟩
      · subst hv
        have hm0 : m = [] := List.eq_nil_of_length_eq_zero (by rw [HM.out]; exact h0)
        subst hm0
        subst h0
        obtain ⟨_, _, eo, sl1, _⟩ := own_formS O1.out
        cases eo
        have S6 := hide sl1
        have B6 := B2
        simp only [List.append_nil, Nat.add_zero] at CE
        have hcap1 := own_cap O1.out
        have hcap1I : (n1 : Int) ≤ (fc : Int) := by omega
        clear ho2 sl1
        cases fa with
        | none =>
          go_wp2_with fail
          try go_simp
          try go_wp2_with fail
          refine (CE.out _ _ _ S6.out (HT.out.below B6.out)).mono ?_
          rintro e w7 ⟨rfl, hb7⟩
          have B7 := hide (B6.out.trans (hb7.mono B6.out.size))
          clear hb7
          go_wp2
          go_ret2
          exact ⟨rfl, B7.out⟩
        | some fx =>
          go_wp2_with fail
          try go_simp
          try go_wp2_with fail
          refine (CE.out _ _ _ S6.out (HT.out.below B6.out)).mono ?_
          rintro e w7 ⟨rfl, hb7⟩
          have B7 := hide (B6.out.trans (hb7.mono B6.out.size))
          clear hb7
          go_wp2
          go_ret2
          exact ⟨rfl, B7.out⟩
      · subst hv
        have O2 := hide ho2
        clear ho2
        go_wp2_with (first
          | (at_builtin; refine wpList_append_own _ rfl _ _ 41 rfl w.heap.size 50 i1 (.agg #[.int .i64 0, .int .i64 0]) 2 16 Tryd.underlying41 hi1 hy0 hy1 hy2 rfl (by decide) _ _ _ rfl O1.out ⟨g, 0, none⟩ n2 cap (flat2 m) rfl (by rw [flat2_len, HM.out]) (O2.out.cells (g := g) rfl) (flat2_one m) (by unfold maxLen; omega) (by omega) B2.out.size ?_)
          | go_in)
        intro v6 w6 hown6 hgrow6 _
        have hb6 : Below w.heap.size w2 w6 := (Below.refl _ w2).grown hgrow6 B2.out.size (fun g hg => (O1.out.lt g hg).1)
        rw [← flat2_append] at hown6
        obtain ⟨v6a, v6c, rfl, sl6, _⟩ := own_formS hown6
        have S6 := hide sl6
        have B6 := hide (B2.out.trans hb6)
        clear hown6 hgrow6 sl6 hb6
        go_wp2_with fail
        refine (CE.out _ _ _ S6.out (HT.out.below B6.out)).mono ?_
        rintro e w7 ⟨rfl, hb7⟩
        have B7 := hide (B6.out.trans (hb7.mono B6.out.size))
        clear hb7
        go_wp2
        go_ret2
        exact ⟨rfl, B7.out⟩

set_option maxRecDepth 100000 in
set_option maxHeartbeats 1000000 in
theorem specJoin_any (a b : ByteArray) (w : World) (ha : a.size ≤ 1048576) (hb : b.size ≤ 1048576) :
    Calls Tryd.prog 58 #[.string a, .string b] w fun e w' => e = .returned (.tuple #[.string (encT (both (dcRes (bts a 0)) (dcRes (bts b 0)))), .bool (encB (both (dcRes (bts a 0)) (dcRes (bts b 0))))]) ∧ Below w.heap.size w w' := by
  have c1 := specDecode_any a w ha
  have c2 := (fun w => specDecode_any b w hb)
  have hl1 := dcRes_len (t := bts a 0) (bts_mem a 0)
  have hl2 := dcRes_len (t := bts b 0) (bts_mem b 0)
  obtain ⟨i1, hi1, hy0, hy1, hy2⟩ := info_parts info_smpS
  cases hda : dcRes (bts a 0) with
  | none =>
    rw [hda] at c1
    simp only [RetS, Option.isSome_none, Option.getD_none] at c1
    rw [both_left, encT_none, encB_none]
    obtain ⟨r2, hr2⟩ : ∃ r2, r2 = dcRes (bts b 0) := ⟨_, rfl⟩
    simp only [← hr2] at c2
    have C1 := hide c1
    have C2 := hide c2
    clear c1 c2 hda hr2 hl1 hl2
    go_enter Tryd.func58, Tryd.ntmps58
    go_wp2_with fail
    refine C1.out.mono ?_
    rintro e w1 ⟨v1, rfl, ho1, hb1⟩
    obtain ⟨fa, fc, rfl, _, _⟩ := own_formS ho1
    have B1 := hide hb1
    clear ho1 hb1
    go_wp2_with fail
    refine (C2.out _).mono ?_
    rintro e w2 ⟨v2, rfl, ho2, hb2⟩
    obtain ⟨ba, bc, rfl, _, _⟩ := own_formS ho2
    have B2 := hide (B1.out.trans (hb2.mono B1.out.size))
    clear ho2 hb2
    go_wp2
    go_ret2
    exact ⟨rfl, B2.out⟩
  | some l =>
    rw [hda] at c1 hl1
    simp only [RetS, Option.isSome_some, Option.getD_some] at c1 hl1
    cases hdb : dcRes (bts b 0) with
    | none =>
      simp only [hdb, RetS, Option.isSome_none, Option.getD_none] at c2
      rw [both_right, encT_none, encB_none]
      have C1 := hide c1
      have C2 := hide c2
      clear c1 c2 hda hdb hl1 hl2
      go_enter Tryd.func58, Tryd.ntmps58
      go_wp2_with fail
      refine C1.out.mono ?_
      rintro e w1 ⟨v1, rfl, ho1, hb1⟩
      obtain ⟨fa, fc, rfl, _, _⟩ := own_formS ho1
      have B1 := hide hb1
      clear ho1 hb1
      go_wp2_with fail
      refine (C2.out _).mono ?_
      rintro e w2 ⟨v2, rfl, ho2, hb2⟩
      obtain ⟨ba, bc, rfl, _, _⟩ := own_formS ho2
      have B2 := hide (B1.out.trans (hb2.mono B1.out.size))
      clear ho2 hb2
      go_wp2
      go_ret2
      exact ⟨rfl, B2.out⟩
    | some m =>
      simp only [hdb, RetS, Option.isSome_some, Option.getD_some] at c2 hl2
      obtain ⟨n1, hn1⟩ : ∃ n, n = l.length := ⟨_, rfl⟩
      obtain ⟨n2, hn2⟩ : ∃ n, n = m.length := ⟨_, rfl⟩
      rw [← hn1] at c1 hl1
      simp only [← hn2] at c2
      rw [← hn2] at hl2
      obtain ⟨T, OK, hTE, CE⟩ : ∃ (T : ByteArray) (OK : Bool), (T = encT (both (some l) (some m)) ∧ OK = encB (both (some l) (some m))) ∧ Hid (∀ (x : Option Addr) (cap : Nat) (w : World), Sl2 w x (l ++ m) → Calls Tryd.prog 36 #[.slice x (n1 + n2) cap] w fun e w' => e = .returned (.tuple #[.string T, .bool OK]) ∧ Below w.heap.size w w') := by
        by_cases hg : GoodS (l ++ m)
        · exact ⟨_, _, ⟨(encT_yes hg).symm, (encB_yes hg).symm⟩, fun x cap w hs => specEncode_yes x (l ++ m) (n1 + n2) cap w (by rw [List.length_append, hn1, hn2]) hs hg⟩
        · exact ⟨_, _, ⟨(encT_no hg).symm, (encB_no hg).symm⟩, fun x cap w hs => specEncode_no x (l ++ m) (n1 + n2) cap w (by rw [List.length_append, hn1, hn2]) hs (by omega) hg⟩
      rw [← hTE.1, ← hTE.2]
      have C1 := hide c1
      have C2 := hide c2
      have HM := hide hn2.symm
      clear c1 c2 hda hdb hTE hn1 hn2
      go_enter Tryd.func58, Tryd.ntmps58
      go_wp2_with fail
      refine C1.out.mono ?_
      rintro e w1 ⟨v1, rfl, ho1, hb1⟩
      obtain ⟨fa, fc, rfl, _, _⟩ := own_formS ho1
      have B1 := hide hb1
      have O1' := hide ho1
      clear ho1 hb1
      go_wp2_with fail
      refine (C2.out _).mono ?_
      rintro e w2 ⟨v2, rfl, ho2, hb2⟩
      have O1 := hide (own_belowS O1'.out hb2)
      have B2 := hide (B1.out.trans (hb2.mono B1.out.size))
      clear hb2 O1'
      rcases ho2.2 with ⟨hv, h0⟩ | ⟨g, cap, cur, hv, _⟩
      · subst hv
        have hm0 : m = [] := List.eq_nil_of_length_eq_zero (by rw [HM.out]; exact h0)
        subst hm0
        subst h0
        obtain ⟨_, _, eo, sl1, _⟩ := own_formS O1.out
        cases eo
        have S6 := hide sl1
        have B6 := B2
        simp only [List.append_nil, Nat.add_zero] at CE
        have hcap1 := own_cap O1.out
        have hcap1I : (n1 : Int) ≤ (fc : Int) := by omega
        clear ho2 sl1
        cases fa with
        | none =>
          go_wp2_with fail
          try go_simp
          try go_wp2_with fail
          refine (CE.out _ _ _ S6.out).mono ?_
          rintro e w7 ⟨rfl, hb7⟩
          have B7 := hide (B6.out.trans (hb7.mono B6.out.size))
          clear hb7
          go_wp2
          go_ret2
          exact ⟨rfl, B7.out⟩
        | some fx =>
          go_wp2_with fail
          try go_simp
          try go_wp2_with fail
          refine (CE.out _ _ _ S6.out).mono ?_
          rintro e w7 ⟨rfl, hb7⟩
          have B7 := hide (B6.out.trans (hb7.mono B6.out.size))
          clear hb7
          go_wp2
          go_ret2
          exact ⟨rfl, B7.out⟩
      · subst hv
        have O2 := hide ho2
        clear ho2
        go_wp2_with (first
          | (at_builtin; refine wpList_append_own _ rfl _ _ 41 rfl w.heap.size 50 i1 (.agg #[.int .i64 0, .int .i64 0]) 2 16 Tryd.underlying41 hi1 hy0 hy1 hy2 rfl (by decide) _ _ _ rfl O1.out ⟨g, 0, none⟩ n2 cap (flat2 m) rfl (by rw [flat2_len, HM.out]) (O2.out.cells (g := g) rfl) (flat2_one m) (by unfold maxLen; omega) (by omega) B2.out.size ?_)
          | go_in)
        intro v6 w6 hown6 hgrow6 _
        have hb6 : Below w.heap.size w2 w6 := (Below.refl _ w2).grown hgrow6 B2.out.size (fun g hg => (O1.out.lt g hg).1)
        rw [← flat2_append] at hown6
        obtain ⟨v6a, v6c, rfl, sl6, _⟩ := own_formS hown6
        have S6 := hide sl6
        have B6 := hide (B2.out.trans hb6)
        clear hown6 hgrow6 sl6 hb6
        go_wp2_with fail
        refine (CE.out _ _ _ S6.out).mono ?_
        rintro e w7 ⟨rfl, hb7⟩
        have B7 := hide (B6.out.trans (hb7.mono B6.out.size))
        clear hb7
        go_wp2
        go_ret2
        exact ⟨rfl, B7.out⟩
end Go.Proofs.YtapffbbmofhpoaaDoor.L1
