/-
  Contracts of the specification's draws of chapter 1: each returns, within the bounds told, and turns nothing that was there.
-/
import Derived.Test.YtapffbbmofhpoaaDoorL1Values
import Derived.Test.YtapffbbmofhpoaaDoorL1Varint
namespace Go.Proofs.YtapffbbmofhpoaaDoor.L1
open Go.RowKit
set_option linter.unusedVariables false

set_option maxRecDepth 100000 in
set_option maxHeartbeats 1000000 in
theorem bytesOf_any (b N : Nat) (w : World) (h : Cur w b N) (hN : N ≤ 1000000) :
    Calls Tryd.prog 79 #[.pointer (some ⟨b, 0, none⟩)] w fun e w' => ∃ (u : ByteArray), e = .returned (.string u) ∧ u.size ≤ 40 ∧ Cur w' b (N + 80) ∧ w.grownBy w' (some b) := by
  have HC := hide h
  have hbw := h.lt
  clear h
  go_enter Tryd.func79, Tryd.ntmps79
  go_wp2_with fail
  refine (values_any b N 6 _ HC.out (by omega) (by omega)).mono ?_
  rintro e w1 ⟨v, rfl, xs, hxl, hxd, ho, hc1, hg1⟩
  obtain ⟨a, cap, rfl, hsl, hxn⟩ := own_form ho
  obtain ⟨n, hn⟩ : ∃ n, n = xs.length := ⟨_, rfl⟩
  rw [← hn] at hxl ⊢
  have HN := hide hn
  have HS := hide hsl
  have H1 := hide hc1
  have G1 := hide hg1
  have HD := hide hxd
  clear ho hsl hc1 hg1 hxd hxn hn
  go_wp2
  go_loopw [3, 9] (fun o i wr => ∃ (k : Nat) (S : ByteArray), k ≤ n ∧ S.size ≤ 6 * k ∧ i = .int .i64 (k : Int) ∧ o = .string S ∧ Below w1.heap.size w1 wr) (fun _ i _ => n - (intOf i).toNat)
  case atStart => exact ⟨0, ⟨#[]⟩, by omega, by decide, rfl, rfl, Below.refl _ _⟩
  case round =>
    obtain ⟨k, S, hk, hSs, rfl, rfl, hbel⟩ := hrel
    by_cases hlt : k < n
    · obtain ⟨bb, off, rfl, hc0⟩ := HS.out k (by rw [← HN.out]; exact hlt)
      have hc : wr.cell? ⟨bb, off + k, none⟩ = some (.int .i64 (xs.getD k 0)) := by
        rw [hbel.cell (p := ⟨bb, off + k, none⟩) (blk_lt hc0)]
        exact hc0
      have hvc := l1Varint_any (xs.getD k 0) wr
      have hl2 : (strOfNums (vd (zig (xs.getD k 0)))).size ≤ 6 := by rw [strOfNums_size]; exact vdf_le 5 _
      obtain ⟨x, hx⟩ : ∃ x, x = xs.getD k 0 := ⟨_, rfl⟩
      rw [← hx] at hc hvc hl2
      obtain ⟨C, hC⟩ : ∃ C, C = strOfNums (vd (zig x)) := ⟨_, rfl⟩
      rw [← hC] at hvc hl2
      have hltI : (k : Int) < (n : Int) := by omega
      have HV := hide hvc
      have hsum : ¬ 9223372036854775807 < S.size + C.size := by omega
      clear hc0 hvc hx hC
      by_cases h1 : -1000000000000 ≤ x
      · by_cases h2 : x ≤ 1000000000000
        · go_wp2_with (first | (go_at_call 76; refine (unhide HV h1 h2).mono ?_; rintro e w2 ⟨rfl, hb2⟩) | go_in)
          go_roundw
          case rel => exact ⟨k + 1, _, by omega, by simp only [ByteArray.size_append]; omega, by go_num, rfl, hbel.trans (Below.mono (by assumption) hbel.size)⟩
          case measure => simp [intOf]; omega
        · go_wp2_with (first | (go_at_call 76; fail) | go_in)
          go_roundw
          case rel => exact ⟨k + 1, S, by omega, by omega, by go_num, rfl, hbel⟩
          case measure => simp [intOf]; omega
      · go_wp2_with (first | (go_at_call 76; fail) | go_in)
        go_roundw
        case rel => exact ⟨k + 1, S, by omega, by omega, by go_num, rfl, hbel⟩
        case measure => simp [intOf]; omega
    · have hltI : ¬ (k : Int) < (n : Int) := by omega
      have HCr := hide (H1.out.below hbel)
      have HGr := hide (grown_then_below G1.out (hbel.mono G1.out.size))
      have hS36 : S.size ≤ 36 := by omega
      go_wp2_with fail
      refine (one_any b (N + 60) _ _ HCr.out (by omega) (by omega) (by omega)).mono ?_
      rintro e w2 ⟨t, rfl, hc2, hg2⟩
      have H2 := hide hc2
      have G2 := hide (grown_trans HGr.out hg2)
      clear hc2 hg2
      cases t with
      | false =>
        go_wp2
        go_ret
        exact ⟨S, rfl, by omega, H2.out.mono (by omega), G2.out⟩
      | true =>
        go_wp2_with fail
        refine (spoilt_any b (N + 62) S _ _ H2.out (by omega) (by omega) (by decide) (by decide)).mono ?_
        rintro e w3 ⟨u, rfl, hus, hc3, hg3⟩
        have H3 := hide hc3
        have G3 := hide (grown_trans G2.out hg3)
        clear hc3 hg3
        go_wp2
        go_ret
        exact ⟨u, rfl, by omega, H3.out.mono (by omega), G3.out⟩

theorem cur_new {w : World} {a : Option Addr} {n cap : Nat} (h : Slb w w.heap.size a n) (hn : n ≤ 1048576) : Cur (w.alloc (Obj.cells #[.slice a n cap, .int .i64 0, .int .u64 0] 79)) w.heap.size 0 := by
  refine ⟨a, n, cap, 0, 0, by show (w.heap.push _)[w.heap.size]? = _; simp, Nat.le_refl _, hn, fun i hi => ?_⟩
  obtain ⟨bb, off, x, ha, hlt, hc, hx⟩ := h i hi
  exact ⟨bb, off, x, ha, hlt, by rw [World.cell?_of_block (w := w) (Below.heap_alloc _ _ _ hlt)]; exact hc, hx⟩
theorem grown_to_below {w w' : World} {o : Obj} (h : (w.alloc o).grownBy w' (some w.heap.size)) : Below w.heap.size w w' := by
  have h1 : Below w.heap.size (w.alloc o) w' := ⟨h.os, h.tape, h.output, h.size, fun k hk => h.block k (by simp; omega) (by simp; omega)⟩
  exact ((Below.refl _ _).alloc (Nat.le_refl _) _).trans h1
theorem Slb.below {w w' : World} {a : Option Addr} {n : Nat} (h : Slb w w.heap.size a n) (hb : Below w.heap.size w w') : Slb w' w'.heap.size a n := fun i hi => by
  obtain ⟨bb, off, x, ha, hlt, hc, hx⟩ := h i hi
  exact ⟨bb, off, x, ha, by have := hb.size; omega, by rw [hb.cell (p := ⟨bb, off + i, none⟩) hlt]; exact hc, hx⟩
theorem sl_len {w : World} {k : IntKind} {a : Option Addr} {len cap : Nat} {zs : List Int} (h : IsRow k w a len cap zs) : len ≤ 9223372036854775807 := by
  rcases h with ⟨_, rfl, _⟩ | ⟨x, _, hl, hm, _⟩
  · omega
  · unfold maxLen at hm; omega
theorem slb_of_row {w : World} {a : Option Addr} {len cap : Nat} {zs : List Int} (h : IsRow .u8 w a len cap zs) : Slb w w.heap.size a len := by
  rcases h with ⟨rfl, rfl, rfl, rfl⟩ | ⟨x, rfl, hl, hm, hz, hc, hwf⟩
  · exact fun i hi => absurd hi (Nat.not_lt_zero _)
  · intro i hi
    have hi' : i < zs.length := by omega
    have h0 := hc i hi'
    obtain ⟨b, off, spot⟩ := x
    have hspot : spot = none := by
      have h00 := hc 0 (by omega)
      simpa [Addr.add] using World.cell?_spot h00
    subst hspot
    have e : (⟨b, off, none⟩ : Addr).add i = ⟨b, off + i, none⟩ := by unfold Addr.add; split <;> simp_all
    rw [e] at h0
    have hw := hwf (zs.getD i 0) (by rw [List.getD, List.getElem?_eq_getElem hi']; simp)
    have hb := bounds_u8 hw
    exact ⟨b, off, zs.getD i 0, rfl, blk_lt h0, h0, by omega, by omega⟩

set_option maxRecDepth 100000 in
set_option maxHeartbeats 400000 in
theorem drawZigZag_any (a : Option Addr) (n cap : Nat) (w : World) (h : Slb w w.heap.size a n) (hn : n ≤ 1048576) :
    Calls Tryd.prog 73 #[.slice a n cap] w fun e w' => ∃ x : Int, e = .returned (.int .i64 x) ∧ -2000000000000 ≤ x ∧ x ≤ 2000000000000 ∧ Below w.heap.size w w' := by
  have HC := hide (cur_new (cap := cap) h hn)
  clear h
  go_enter Tryd.func73, Tryd.ntmps73
  go_wp2_with fail
  refine (value_any _ 0 _ HC.out (by omega)).mono ?_
  rintro e w1 ⟨x, rfl, hx0, hx1, _, hg1⟩
  have B1 := hide (grown_to_below hg1)
  clear hg1
  go_wp2
  go_ret
  exact ⟨x, rfl, hx0, hx1, B1.out⟩
set_option maxRecDepth 100000 in
set_option maxHeartbeats 400000 in
theorem drawPutVarint_any (a : Option Addr) (n cap : Nat) (w : World) (h : Slb w w.heap.size a n) (hn : n ≤ 1048576) :
    Calls Tryd.prog 8 #[.slice a n cap] w fun e w' => ∃ x : Int, e = .returned (.int .i64 x) ∧ -2000000000000 ≤ x ∧ x ≤ 2000000000000 ∧ Below w.heap.size w w' := by
  have HC := hide (drawZigZag_any a n cap w h hn)
  clear h
  go_enter Tryd.func8, Tryd.ntmps8
  go_wp2_with fail
  refine (unhide HC).mono ?_
  rintro e w1 ⟨x, rfl, hx0, hx1, hb⟩
  go_wp2
  go_ret
  exact ⟨x, rfl, hx0, hx1, hb⟩
set_option maxRecDepth 100000 in
set_option maxHeartbeats 400000 in
theorem drawGetAll_any (a : Option Addr) (n cap : Nat) (w : World) (h : Slb w w.heap.size a n) (hn : n ≤ 1048576) :
    Calls Tryd.prog 22 #[.slice a n cap] w fun e w' => ∃ u : ByteArray, e = .returned (.string u) ∧ u.size ≤ 40 ∧ Below w.heap.size w w' := by
  have HC := hide (cur_new (cap := cap) h hn)
  clear h
  go_enter Tryd.func22, Tryd.ntmps22
  go_wp2_with fail
  refine (bytesOf_any _ 0 _ HC.out (by omega)).mono ?_
  rintro e w1 ⟨u, rfl, hu, _, hg1⟩
  have B1 := hide (grown_to_below hg1)
  clear hg1
  go_wp2
  go_ret
  exact ⟨u, rfl, hu, B1.out⟩
set_option maxRecDepth 100000 in
set_option maxHeartbeats 400000 in
theorem drawGetVarint_any (a : Option Addr) (n cap : Nat) (w : World) (h : Slb w w.heap.size a n) (hn : n ≤ 1048576) :
    Calls Tryd.prog 17 #[.slice a n cap] w fun e w' => ∃ (u : ByteArray) (x : Int), e = .returned (.tuple #[.string u, .int .i64 x]) ∧ u.size ≤ 40 ∧ -1 ≤ x ∧ x ≤ 65535 ∧ Below w.heap.size w w' := by
  have HC := hide (cur_new (cap := cap) h hn)
  clear h
  go_enter Tryd.func17, Tryd.ntmps17
  go_wp2_with fail
  refine (bytesOf_any _ 0 _ HC.out (by omega)).mono ?_
  rintro e w1 ⟨u, rfl, hu, hc1, hg1⟩
  have H1 := hide hc1
  have G1 := hide hg1
  clear hc1 hg1
  go_wp2_with fail
  refine (pick_any _ _ _ _ H1.out (by omega) (by omega) (by omega)).mono ?_
  rintro e w2 ⟨x, rfl, hx0, hx1, _, _, hg2⟩
  have B2 := hide (grown_to_below (grown_trans G1.out hg2))
  clear hg2
  go_wp2
  go_ret2
  exact ⟨u, x - 1, rfl, hu, by omega, by omega, B2.out⟩
set_option maxRecDepth 100000 in
set_option maxHeartbeats 1000000 in
theorem drawPutAll_any (a : Option Addr) (n cap : Nat) (w : World) (h : Slb w w.heap.size a n) (hn : n ≤ 1048576) :
    Calls Tryd.prog 19 #[.slice a n cap] w fun e w' => ∃ (v : Value), e = .returned v ∧ ∃ (xs : List Int), xs.length ≤ 61 ∧ w'.ownsRow w.heap.size 3 1 v xs.length (xs.map (Value.int .i64)) ∧ Below w.heap.size w w' := by
  have HC := hide (cur_new (cap := cap) h hn)
  obtain ⟨i0, hi, hz0, hz1, hz2⟩ := info_parts info_int
  clear h
  go_enter Tryd.func19, Tryd.ntmps19
  go_wp2_with fail
  refine (one_any _ 0 _ _ HC.out (by omega) (by omega) (by omega)).mono ?_
  rintro e w1 ⟨t, rfl, hc1, hg1⟩
  have H1 := hide hc1
  have G1 := hide hg1
  clear hc1 hg1
  cases t with
  | true =>
    go_wp2_with fail
    refine (pick_any _ _ _ _ H1.out (by omega) (by omega) (by omega)).mono ?_
    rintro e w2 ⟨x, rfl, hx0, hx1, hx2, _, hg2⟩
    have hx3 : x < 3 := hx2 (by omega)
    obtain ⟨k, rfl⟩ : ∃ k : Nat, x = (k : Int) := ⟨x.toNat, by omega⟩
    have B2 := hide (grown_to_below (grown_trans G1.out hg2))
    have hB : w.heap.size ≤ w2.heap.size := B2.out.size
    obtain ⟨w3, hmk, hown3, hg3⟩ := run_make_full (P := Tryd.prog) w2 w.heap.size 32 3 i0 (.int .i64 0) 1 Tryd.underlying32 hi hz0 hz1 .i64 .i64 (59 + k) (by rw [hz2]; omega) (by unfold maxLen; omega) hB
    rw [made_ints] at hown3
    have hmk' : (Instr.makeSlice 32 (.int .i64 (59 + (k : Int))) (.int .i64 (59 + (k : Int)))).run Tryd.prog w2 = .ok (.slice (some ⟨w2.heap.size, 0, none⟩) (59 + k) (59 + k)) w3 := by
      have e : ((59 + k : Nat) : Int) = 59 + (k : Int) := by omega
      rw [e] at hmk
      exact hmk
    have O3 := hide hown3
    have B3 := hide (B2.out.grown hg3 hB (fun k hk => by cases hk))
    clear hg2 hx2 hmk hown3 hg3
    go_wp2
    go_ret
    exact ⟨_, rfl, List.replicate (59 + k) 0, by simp; omega, by simpa using O3.out, B3.out⟩
  | false =>
    go_wp2_with fail
    refine (values_any _ _ 8 _ H1.out (by omega) (by omega)).mono ?_
    rintro e w2 ⟨v, rfl, xs, hxl, _, ho, _, hg2⟩
    have B2 := hide (grown_to_below (grown_trans G1.out hg2))
    have O2 : Hid (w2.ownsRow w.heap.size 3 1 v xs.length (xs.map (Value.int .i64))) := by
      refine ⟨ho.1, ?_⟩
      rcases ho.2 with h0 | ⟨g, cap, cur, hv, hb, r⟩
      · exact .inl h0
      · exact .inr ⟨g, cap, cur, hv, by have := G1.out.size; simp at this; omega, r⟩
    clear hg2 ho
    go_wp2
    go_ret
    exact ⟨_, rfl, xs, by omega, O2.out, B2.out⟩
end Go.Proofs.YtapffbbmofhpoaaDoor.L1
