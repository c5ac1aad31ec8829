/-
  Contracts: impl.RangeOf and spec.RangeOf: of a text's samples those from a time on, up to another one.
-/
import Derived.Test.YtapffbbmofhpoaaDoorL2Dec
import Derived.Test.YtapffbbmofhpoaaDoorL2SpecDec
namespace Go.Proofs.YtapffbbmofhpoaaDoor.L1
open Go.RowKit
set_option linter.unusedVariables false

/-- Samples from a time on, up to another one. -/
def rg (fr to : Int) (l : List (Int × Int)) : List (Int × Int) := l.filter fun p => decide (fr ≤ p.1 ∧ p.1 < to)
theorem rg_take (fr to : Int) (l : List (Int × Int)) (k : Nat) (h : k < l.length) : rg fr to (l.take (k + 1)) = rg fr to (l.take k) ++ (if fr ≤ (l.getD k (0, 0)).1 ∧ (l.getD k (0, 0)).1 < to then [l.getD k (0, 0)] else []) := by
  rw [List.take_succ_eq_append_getElem h]
  have e : l.getD k (0, 0) = l[k] := by simp [List.getD, List.getElem?_eq_getElem h]
  rw [e]
  simp only [rg, List.filter_append]
  congr 1
  by_cases hc : fr ≤ l[k].1 ∧ l[k].1 < to
  · simp [hc]
  · rw [if_neg hc]
    simp only [List.filter_cons, List.filter_nil]
    rw [if_neg (by simpa using hc)]
theorem rg_len (fr to : Int) (l : List (Int × Int)) : (rg fr to l).length ≤ l.length := List.length_filter_le _ _

set_option maxRecDepth 100000 in
set_option maxHeartbeats 1000000 in
theorem rangeOf_any (s : ByteArray) (fr to : Int) (w : World) (hs : s.size ≤ 1048576) (ht : Tab w) (R : Option (List (Int × Int))) (hR : R = (dcRes (bts s 0)).map (rg fr to)) :
    Calls Tryd.prog 51 #[.string s, .int .i64 fr, .int .i64 to] w fun e w' => RetS w R e w' := by
  have c1 := decodeChunk_any s w hs ht
  have hlen := dcRes_len (t := bts s 0) (bts_mem s 0)
  cases hd : dcRes (bts s 0) with
  | none =>
    rw [hd] at c1 hR
    simp only [RetS, Option.isSome_none, Option.getD_none, Option.map_none] at c1 hR
    subst hR
    have C1 := hide c1
    clear c1 hd hlen
    go_enter Tryd.func51, Tryd.ntmps51
    go_wp2_with fail
    refine C1.out.mono ?_
    rintro e w1 ⟨v, rfl, ho, hb1⟩
    obtain ⟨va, vc, rfl, _, _⟩ := own_formS ho
    clear ho
    go_wp2
    go_ret2
    exact ⟨_, rfl, World.ownsRow_nil _ _ _ _, hb1⟩
  | some l =>
    rw [hd] at c1 hR hlen
    simp only [RetS, Option.isSome_some, Option.getD_some, Option.map_some] at c1 hR hlen
    obtain ⟨n, hn⟩ : ∃ n, n = l.length := ⟨_, rfl⟩
    rw [← hn] at c1 hlen
    obtain ⟨i1, hi1, hy0, hy1, hy2⟩ := info_parts info_smpS
    have C1 := hide c1
    have HN := hide hn.symm
    have HRR := hide hR
    clear c1 hd hR hn
    go_enter Tryd.func51, Tryd.ntmps51
    go_wp2_with fail
    refine C1.out.mono ?_
    rintro e W1 ⟨v, rfl, ho, hb1⟩
    obtain ⟨va, vc, rfl, hsl, _⟩ := own_formS ho
    have HS := hide hsl
    have B1 := hide hb1
    clear ho hsl hb1 C1
    go_wp2
    go_loopw [10, 22] (fun o i wr => ∃ (k q : Nat), k ≤ n ∧ q ≤ k ∧ q = (rg fr to (l.take k)).length ∧ i = .int .i64 k ∧ wr.ownsRow W1.heap.size 50 2 o q (flat2 (rg fr to (l.take k))) ∧ Below W1.heap.size W1 wr) (fun _ i _ => n - (intOf i).toNat)
    case atStart => exact ⟨0, 0, Nat.zero_le _, Nat.zero_le _, rfl, rfl, World.ownsRow_nil _ _ _ _, Below.refl _ _⟩
    case round =>
      obtain ⟨k, q, hk, hqk, hq, rfl, hown, hbel⟩ := hrel
      obtain ⟨oa, ocap, rfl, _, _⟩ := own_formS hown
      by_cases hlt : k < n
      · obtain ⟨b, off, rfl, hc0, hd0⟩ := HS.out k (by rw [HN.out]; exact hlt)
        have hc := (hbel.cell (p := ⟨b, off + k * 2, none⟩) (blk_lt hc0)).trans hc0
        have hd := (hbel.cell (p := ⟨b, off + k * 2 + 1, none⟩) (blk_lt hd0)).trans hd0
        have htk := rg_take fr to l k (by rw [HN.out]; exact hlt)
        have hltI : (k : Int) < (n : Int) := by omega
        obtain ⟨x, hx⟩ : ∃ x, x = (l.getD k (0, 0)).1 := ⟨_, rfl⟩
        obtain ⟨y, hy⟩ : ∃ y, y = (l.getD k (0, 0)).2 := ⟨_, rfl⟩
        rw [← hx] at hc
        rw [← hy] at hd
        have hxy : l.getD k (0, 0) = (x, y) := by rw [hx, hy]
        rw [hxy] at htk
        obtain ⟨ns, hns⟩ : ∃ ns, ns = rg fr to (l.take k) := ⟨_, rfl⟩
        rw [← hns] at htk hown hq
        have HTK := hide htk
        have HQ := hide hq
        have HROW := hide hown
        have hsz := hbel.size
        clear hc0 hd0 hx hy hxy htk hns hown hq
        by_cases hin : fr ≤ x ∧ x < to
        · have HIN := hide hin
          obtain ⟨hin1, hin2⟩ := hin
          go_wp2_with (first
            | (at_builtin; refine wpList_append_own _ rfl _ _ 41 rfl W1.heap.size 50 i1 (.agg #[.int .i64 0, .int .i64 0]) 2 16 Tryd.underlying41 hi1 hy0 hy1 hy2 rfl (by decide) _ _ _ rfl ((HROW.out.alloc _).alloc _) ⟨wr.heap.size + 1, 0, none⟩ 1 1 [.int .i64 x, .int .i64 y] rfl rfl (fun j u h => by have := cell_two_newS (wr.alloc (.cells #[.int .i64 x, .int .i64 y] 50)) (.int .i64 x) (.int .i64 y) 50 j u h; rw [World.size_alloc] at this; exact this) (by intro u hu; simp at hu; rcases hu with rfl | rfl <;> rfl) (by unfold maxLen; omega) (by omega) (by simp; omega) ?_)
            | go_in)
          intro v6 w6 hown6 hgrow6 _
          have hb6 : Below W1.heap.size wr w6 := (((Below.refl _ wr).alloc hsz _).alloc (by simp; omega) _).grown hgrow6 (by simp; omega) (fun g hg => (HROW.out.lt g hg).1)
          have B6 := hide (hbel.trans hb6)
          have HO6 : Hid (w6.ownsRow W1.heap.size 50 2 v6 (q + 1) (flat2 (rg fr to (l.take (k + 1))))) := by show World.ownsRow _ _ _ _ _ _ _; rw [HTK.out, if_pos HIN.out, flat2_append]; simpa [flat2] using hown6
          clear hown6 hgrow6 hb6
          go_wp2
          go_roundw
          case rel => exact ⟨k + 1, q + 1, by omega, by omega, by rw [HTK.out, if_pos HIN.out, List.length_append, ← HQ.out]; rfl, by go_num, HO6.out, B6.out⟩
          case measure => simp [intOf]; omega
        · have HIN := hide hin
          have B6 := hide ((hbel.alloc hsz (.cells #[.int .i64 x, .int .i64 y] 50)))
          have HO6 : Hid ((wr.alloc (.cells #[.int .i64 x, .int .i64 y] 50)).ownsRow W1.heap.size 50 2 (.slice oa q ocap) q (flat2 (rg fr to (l.take (k + 1))))) := by show World.ownsRow _ _ _ _ _ _ _; rw [HTK.out, if_neg HIN.out, List.append_nil]; exact HROW.out.alloc _
          by_cases hin1 : fr ≤ x
          · have hin2 : ¬ x < to := fun h => hin ⟨hin1, h⟩
            clear hin
            go_wp2
            go_roundw
            case rel => exact ⟨k + 1, q, by omega, by omega, by rw [HTK.out, if_neg HIN.out, List.append_nil, ← HQ.out], by go_num, HO6.out, B6.out⟩
            case measure => simp [intOf]; omega
          · clear hin
            go_wp2
            go_roundw
            case rel => exact ⟨k + 1, q, by omega, by omega, by rw [HTK.out, if_neg HIN.out, List.append_nil, ← HQ.out], by go_num, HO6.out, B6.out⟩
            case measure => simp [intOf]; omega
      · obtain rfl : n = k := by omega
        have e1 : l.take n = l := List.take_of_length_le (by rw [HN.out]; omega)
        rw [e1] at hown hq
        have hltI : ¬ (n : Int) < (n : Int) := by omega
        have HO := hide (own_baseS hown B1.out.size)
        have HQ := hide hq
        clear e1 hown hq
        go_wp2
        go_ret2
        exact ⟨_, by rw [HRR.out]; rfl, by rw [HRR.out]; simp only [Option.getD_some]; rw [← HQ.out]; exact HO.out, B1.out.trans (hbel.mono B1.out.size)⟩

set_option maxRecDepth 100000 in
set_option maxHeartbeats 1000000 in
theorem specRange_any (s : ByteArray) (fr to : Int) (w : World) (hs : s.size ≤ 1048576) (R : Option (List (Int × Int))) (hR : R = (dcRes (bts s 0)).map (rg fr to)) :
    Calls Tryd.prog 52 #[.string s, .int .i64 fr, .int .i64 to] w fun e w' => RetS w R e w' := by
  have c1 := specDecode_any s w hs
  have hlen := dcRes_len (t := bts s 0) (bts_mem s 0)
  cases hd : dcRes (bts s 0) with
  | none =>
    rw [hd] at c1 hR
    simp only [RetS, Option.isSome_none, Option.getD_none, Option.map_none] at c1 hR
    subst hR
    have C1 := hide c1
    clear c1 hd hlen
    go_enter Tryd.func52, Tryd.ntmps52
    go_wp2_with fail
    refine C1.out.mono ?_
    rintro e w1 ⟨v, rfl, ho, hb1⟩
    obtain ⟨va, vc, rfl, _, _⟩ := own_formS ho
    clear ho
    go_wp2
    go_ret2
    exact ⟨_, rfl, World.ownsRow_nil _ _ _ _, hb1⟩
  | some l =>
    rw [hd] at c1 hR hlen
    simp only [RetS, Option.isSome_some, Option.getD_some, Option.map_some] at c1 hR hlen
    obtain ⟨n, hn⟩ : ∃ n, n = l.length := ⟨_, rfl⟩
    rw [← hn] at c1 hlen
    obtain ⟨i1, hi1, hy0, hy1, hy2⟩ := info_parts info_smpS
    have C1 := hide c1
    have HN := hide hn.symm
    have HRR := hide hR
    clear c1 hd hR hn
    go_enter Tryd.func52, Tryd.ntmps52
    go_wp2_with fail
    refine C1.out.mono ?_
    rintro e W1 ⟨v, rfl, ho, hb1⟩
    obtain ⟨va, vc, rfl, hsl, _⟩ := own_formS ho
    have HS := hide hsl
    have B1 := hide hb1
    clear ho hsl hb1 C1
    go_wp2
    go_loopw [10, 22] (fun o i wr => ∃ (k q : Nat), k ≤ n ∧ q ≤ k ∧ q = (rg fr to (l.take k)).length ∧ i = .int .i64 k ∧ wr.ownsRow W1.heap.size 50 2 o q (flat2 (rg fr to (l.take k))) ∧ Below W1.heap.size W1 wr) (fun _ i _ => n - (intOf i).toNat)
    case atStart => exact ⟨0, 0, Nat.zero_le _, Nat.zero_le _, rfl, rfl, World.ownsRow_nil _ _ _ _, Below.refl _ _⟩
    case round =>
      obtain ⟨k, q, hk, hqk, hq, rfl, hown, hbel⟩ := hrel
      obtain ⟨oa, ocap, rfl, _, _⟩ := own_formS hown
      by_cases hlt : k < n
      · obtain ⟨b, off, rfl, hc0, hd0⟩ := HS.out k (by rw [HN.out]; exact hlt)
        have hc := (hbel.cell (p := ⟨b, off + k * 2, none⟩) (blk_lt hc0)).trans hc0
        have hd := (hbel.cell (p := ⟨b, off + k * 2 + 1, none⟩) (blk_lt hd0)).trans hd0
        have htk := rg_take fr to l k (by rw [HN.out]; exact hlt)
        have hltI : (k : Int) < (n : Int) := by omega
        obtain ⟨x, hx⟩ : ∃ x, x = (l.getD k (0, 0)).1 := ⟨_, rfl⟩
        obtain ⟨y, hy⟩ : ∃ y, y = (l.getD k (0, 0)).2 := ⟨_, rfl⟩
        rw [← hx] at hc
        rw [← hy] at hd
        have hxy : l.getD k (0, 0) = (x, y) := by rw [hx, hy]
        rw [hxy] at htk
        obtain ⟨ns, hns⟩ : ∃ ns, ns = rg fr to (l.take k) := ⟨_, rfl⟩
        rw [← hns] at htk hown hq
        have HTK := hide htk
        have HQ := hide hq
        have HROW := hide hown
        have hsz := hbel.size
        clear hc0 hd0 hx hy hxy htk hns hown hq
        by_cases hin : fr ≤ x ∧ x < to
        · have HIN := hide hin
          obtain ⟨hin1, hin2⟩ := hin
          go_wp2_with (first
            | (at_builtin; refine wpList_append_own _ rfl _ _ 41 rfl W1.heap.size 50 i1 (.agg #[.int .i64 0, .int .i64 0]) 2 16 Tryd.underlying41 hi1 hy0 hy1 hy2 rfl (by decide) _ _ _ rfl ((HROW.out.alloc _).alloc _) ⟨wr.heap.size + 1, 0, none⟩ 1 1 [.int .i64 x, .int .i64 y] rfl rfl (fun j u h => by have := cell_two_newS (wr.alloc (.cells #[.int .i64 x, .int .i64 y] 50)) (.int .i64 x) (.int .i64 y) 50 j u h; rw [World.size_alloc] at this; exact this) (by intro u hu; simp at hu; rcases hu with rfl | rfl <;> rfl) (by unfold maxLen; omega) (by omega) (by simp; omega) ?_)
            | go_in)
          intro v6 w6 hown6 hgrow6 _
          have hb6 : Below W1.heap.size wr w6 := (((Below.refl _ wr).alloc hsz _).alloc (by simp; omega) _).grown hgrow6 (by simp; omega) (fun g hg => (HROW.out.lt g hg).1)
          have B6 := hide (hbel.trans hb6)
          have HO6 : Hid (w6.ownsRow W1.heap.size 50 2 v6 (q + 1) (flat2 (rg fr to (l.take (k + 1))))) := by show World.ownsRow _ _ _ _ _ _ _; rw [HTK.out, if_pos HIN.out, flat2_append]; simpa [flat2] using hown6
          clear hown6 hgrow6 hb6
          go_wp2
          go_roundw
          case rel => exact ⟨k + 1, q + 1, by omega, by omega, by rw [HTK.out, if_pos HIN.out, List.length_append, ← HQ.out]; rfl, by go_num, HO6.out, B6.out⟩
          case measure => simp [intOf]; omega
        · have HIN := hide hin
          have B6 := hide ((hbel.alloc hsz (.cells #[.int .i64 x, .int .i64 y] 50)))
          have HO6 : Hid ((wr.alloc (.cells #[.int .i64 x, .int .i64 y] 50)).ownsRow W1.heap.size 50 2 (.slice oa q ocap) q (flat2 (rg fr to (l.take (k + 1))))) := by show World.ownsRow _ _ _ _ _ _ _; rw [HTK.out, if_neg HIN.out, List.append_nil]; exact HROW.out.alloc _
          by_cases hin1 : fr ≤ x
          · have hin2 : ¬ x < to := fun h => hin ⟨hin1, h⟩
            clear hin
            go_wp2
            go_roundw
            case rel => exact ⟨k + 1, q, by omega, by omega, by rw [HTK.out, if_neg HIN.out, List.append_nil, ← HQ.out], by go_num, HO6.out, B6.out⟩
            case measure => simp [intOf]; omega
          · clear hin
            go_wp2
            go_roundw
            case rel => exact ⟨k + 1, q, by omega, by omega, by rw [HTK.out, if_neg HIN.out, List.append_nil, ← HQ.out], by go_num, HO6.out, B6.out⟩
            case measure => simp [intOf]; omega
      · obtain rfl : n = k := by omega
        have e1 : l.take n = l := List.take_of_length_le (by rw [HN.out]; omega)
        rw [e1] at hown hq
        have hltI : ¬ (n : Int) < (n : Int) := by omega
        have HO := hide (own_baseS hown B1.out.size)
        have HQ := hide hq
        clear e1 hown hq
        go_wp2
        go_ret2
        exact ⟨_, by rw [HRR.out]; rfl, by rw [HRR.out]; simp only [Option.getD_some]; rw [← HQ.out]; exact HO.out, B1.out.trans (hbel.mono B1.out.size)⟩
end Go.Proofs.YtapffbbmofhpoaaDoor.L1
