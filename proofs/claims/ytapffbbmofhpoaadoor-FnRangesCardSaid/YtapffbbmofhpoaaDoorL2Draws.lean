/-
  Contracts of the specification's draws of chapter 2: each returns, within the bounds told, and turns nothing that was there.
-/
import Derived.Test.YtapffbbmofhpoaaDoorL1Draws
import Derived.Test.YtapffbbmofhpoaaDoorL2DrawSmp
import Derived.Test.YtapffbbmofhpoaaDoorL2SpecEnc
namespace Go.Proofs.YtapffbbmofhpoaaDoor.L1
open Go.RowKit
set_option linter.unusedVariables false

theorem OwnSmps.base {w : World} {B B' : Nat} {v : Value} (h : OwnSmps w B v) (hB : B' ≤ B) : OwnSmps w B' v := by
  obtain ⟨l, hl, hb, ho⟩ := h
  exact ⟨l, hl, hb, own_baseS ho hB⟩
/-- spec.EncodeChunk over what the caller owns: a text that is not long. -/
theorem specEncode_own {B : Nat} (v : Value) (w : World) (h : OwnSmps w B v) :
    Calls Tryd.prog 36 #[v] w fun e w' => ∃ (u : ByteArray) (ok : Bool), e = .returned (.tuple #[.string u, .bool ok]) ∧ u.size ≤ 486 ∧ Below w.heap.size w w' := by
  obtain ⟨l, hl, hb, ho⟩ := h
  obtain ⟨a, cap, rfl, hs, _⟩ := own_formS ho
  by_cases hg : GoodS l
  · refine (specEncode_yes a l l.length cap w rfl hs hg).mono ?_
    rintro e w' ⟨rfl, hb'⟩
    refine ⟨_, _, rfl, ?_, hb'⟩
    rw [strOfNums_size]
    have h1 := cat_len (nums l)
    have h2 := nums_len l
    have := hg.1
    omega
  · refine (specEncode_no a l l.length cap w rfl hs (by omega) hg).mono ?_
    rintro e w' ⟨rfl, hb'⟩
    exact ⟨_, _, rfl, by show 0 ≤ 486; omega, hb'⟩

set_option maxRecDepth 100000 in
set_option maxHeartbeats 1000000 in
theorem chunk_any (b N : Nat) (w : World) (h : Cur w b N) (hN : N ≤ 100000) :
    Calls Tryd.prog 103 #[.pointer (some ⟨b, 0, none⟩)] w fun e w' => ∃ u : ByteArray, e = .returned (.string u) ∧ u.size ≤ 488 ∧ Cur w' b (N + 1100) ∧ w.grownBy w' (some b) := by
  have HC := hide h
  have hbw := h.lt
  clear h
  go_enter Tryd.func103, Tryd.ntmps103
  go_wp2_with fail
  refine (samples_any b N _ HC.out (by omega)).mono ?_
  rintro e w1 ⟨v, rfl, hO, hc1, hg1⟩
  have C1 := hide hc1
  have G1 := hide hg1
  have CE := hide (specEncode_own v w1 hO)
  clear hO hc1 hg1 HC
  go_wp2_with fail
  refine CE.out.mono ?_
  rintro e w2 ⟨u, ok, rfl, hu, hb2⟩
  have C2 := hide (C1.out.below hb2)
  have G2 := hide (grown_trans G1.out (below_grown hb2))
  clear hb2 C1 G1 CE
  go_wp2_with fail
  refine (one_any b _ 4 _ C2.out (by omega) (by omega) (by omega)).mono ?_
  rintro e w3 ⟨t, rfl, hc3, hg3⟩
  have C3 := hide hc3
  have G3 := hide (grown_trans G2.out hg3)
  clear hc3 hg3 C2 G2
  cases t with
  | false =>
    go_wp2_with fail
    go_ret
    exact ⟨u, rfl, by omega, C3.out.mono (by omega), G3.out⟩
  | true =>
    go_wp2_with fail
    refine (spoilt_any b _ u _ _ C3.out (by omega) (by omega) (by decide) (by decide)).mono ?_
    rintro e w4 ⟨u4, rfl, hu4, hc4, hg4⟩
    have C4 := hide hc4
    have G4 := hide (grown_trans G3.out hg4)
    clear hc4 hg4 C3 G3
    go_wp2_with fail
    go_ret
    exact ⟨u4, rfl, by omega, C4.out.mono (by omega), G4.out⟩

set_option maxRecDepth 100000 in
set_option maxHeartbeats 1000000 in
theorem drawGoodSamples_any (a : Option Addr) (n cap : Nat) (w : World) (h : Slb w w.heap.size a n) (hn : n ≤ 1048576) :
    Calls Tryd.prog 97 #[.slice a n cap] w fun e w' => ∃ v, e = .returned v ∧ OwnSmps w' w.heap.size v ∧ Below w.heap.size w w' := by
  have HC := hide (cur_new (cap := cap) h hn)
  clear h
  go_enter Tryd.func97, Tryd.ntmps97
  go_wp2_with fail
  refine (samples_any _ 0 _ HC.out (by omega)).mono ?_
  rintro e w1 ⟨v, rfl, hO, _, hg1⟩
  have B1 := hide (grown_to_below hg1)
  have O1 := hide (hO.base (B' := w.heap.size) (by simp))
  clear hg1 hO
  go_wp2
  go_ret
  exact ⟨v, rfl, O1.out, B1.out⟩

set_option maxRecDepth 100000 in
set_option maxHeartbeats 1000000 in
theorem drawEncodeChunk_any (a : Option Addr) (n cap : Nat) (w : World) (h : Slb w w.heap.size a n) (hn : n ≤ 1048576) :
    Calls Tryd.prog 34 #[.slice a n cap] w fun e w' => ∃ v, e = .returned v ∧ OwnSmps w' w.heap.size v ∧ Below w.heap.size w w' := by
  have HC := hide (drawGoodSamples_any a n cap w h hn)
  clear h
  go_enter Tryd.func34, Tryd.ntmps34
  go_wp2_with fail
  refine HC.out.mono ?_
  rintro e w1 ⟨v, rfl, hO, hb⟩
  have B1 := hide hb
  have O1 := hide hO
  clear hb hO
  go_wp2
  go_ret
  exact ⟨v, rfl, O1.out, B1.out⟩

set_option maxRecDepth 100000 in
set_option maxHeartbeats 1000000 in
theorem drawDecodeChunk_any (a : Option Addr) (n cap : Nat) (w : World) (h : Slb w w.heap.size a n) (hn : n ≤ 1048576) :
    Calls Tryd.prog 43 #[.slice a n cap] w fun e w' => ∃ u : ByteArray, e = .returned (.string u) ∧ u.size ≤ 488 ∧ Below w.heap.size w w' := by
  have HC := hide (cur_new (cap := cap) h hn)
  clear h
  go_enter Tryd.func43, Tryd.ntmps43
  go_wp2_with fail
  refine (chunk_any _ 0 _ HC.out (by omega)).mono ?_
  rintro e w1 ⟨u, rfl, hu, _, hg1⟩
  have B1 := hide (grown_to_below hg1)
  clear hg1
  go_wp2
  go_ret
  exact ⟨u, rfl, hu, B1.out⟩

set_option maxRecDepth 100000 in
set_option maxHeartbeats 1000000 in
theorem drawRangeOf_any (a : Option Addr) (n cap : Nat) (w : World) (h : Slb w w.heap.size a n) (hn : n ≤ 1048576) :
    Calls Tryd.prog 50 #[.slice a n cap] w fun e w' => ∃ (u : ByteArray) (x y : Int), e = .returned (.tuple #[.string u, .int .i64 x, .int .i64 y]) ∧ u.size ≤ 488 ∧ 0 ≤ x ∧ x ≤ 99 ∧ -20 ≤ y ∧ y ≤ 300 ∧ Below w.heap.size w w' := by
  have HC := hide (cur_new (cap := cap) h hn)
  clear h
  go_enter Tryd.func50, Tryd.ntmps50
  go_wp2_with fail
  refine (pick_any _ 0 100 _ HC.out (by omega) (by omega) (by omega)).mono ?_
  rintro e w1 ⟨x, rfl, hx0, _, hx1, hc1, hg1⟩
  have hx1' := hx1 (by omega)
  have C1 := hide hc1
  have G1 := hide hg1
  clear hc1 hg1 hx1
  go_wp2_with fail
  refine (chunk_any _ _ _ C1.out (by omega)).mono ?_
  rintro e w2 ⟨u, rfl, hu, hc2, hg2⟩
  have C2 := hide hc2
  have G2 := hide (grown_trans G1.out hg2)
  clear hc2 hg2 C1 G1
  go_wp2_with fail
  refine (pick_any _ _ 200 _ C2.out (by omega) (by omega) (by omega)).mono ?_
  rintro e w3 ⟨y, rfl, hy0, _, hy1, hc3, hg3⟩
  have hy1' := hy1 (by omega)
  have B3 := hide (grown_to_below (grown_trans G2.out hg3))
  clear hc3 hg3 hy1 C2 G2
  go_wp2
  go_ret3
  exact ⟨u, x, x + y - 20, rfl, hu, hx0, by omega, by omega, by omega, B3.out⟩
end Go.Proofs.YtapffbbmofhpoaaDoor.L1
