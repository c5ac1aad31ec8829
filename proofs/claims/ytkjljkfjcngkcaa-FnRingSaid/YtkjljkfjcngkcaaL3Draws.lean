/-
  Contracts: the draws of chapter 3's rings: some tokens, ints and lists of ints, whatever the bytes.
-/
import Derived.Test.YtkjljkfjcngkcaaL3DrawRing
namespace Go.Proofs.Ytkjljkfjcngkcaa.L3
open Go.RowKit L1
set_option linter.unusedVariables false

theorem cur_new {w : World} {a : Option Addr} {n cap : Nat} (h : Slb w w.heap.size a n) (hn : n ≤ 1048576) : Cur (w.alloc (Obj.cells #[.slice a n cap, .int .i64 0, .int .u64 0] 47)) w.heap.size 0 := by
  refine ⟨a, n, cap, 0, 0, by show (w.heap.push _)[w.heap.size]? = _; simp, Nat.le_refl _, hn, fun i hi => ?_⟩
  obtain ⟨bb, off, x, ha, hlt, hc, hx⟩ := h i hi
  exact ⟨bb, off, x, ha, hlt, by rw [World.cell?_of_block (w := w) (Below.heap_alloc _ _ _ hlt)]; exact hc, hx⟩
theorem grown_to_below {w w' : World} {o : Obj} (h : (w.alloc o).grownBy w' (some w.heap.size)) : Below w.heap.size w w' := by
  have h1 : Below w.heap.size (w.alloc o) w' := ⟨h.os, h.tape, h.output, h.size, fun k hk => h.block k (by simp; omega) (by simp; omega)⟩
  exact ((Below.refl _ _).alloc (Nat.le_refl _) _).trans h1
theorem Slb.below {w w' : World} {a : Option Addr} {n : Nat} (h : Slb w w.heap.size a n) (hb : Below w.heap.size w w') : Slb w' w'.heap.size a n := fun i hi => by
  obtain ⟨bb, off, x, ha, hlt, hc, hx⟩ := h i hi
  exact ⟨bb, off, x, ha, by have := hb.size; omega, by rw [hb.cell (p := ⟨bb, off + i, none⟩) hlt]; exact hc, hx⟩
theorem sl_len {w : World} {k : IntKind} {a : Option Addr} {len cap : Nat} {zs : List Int} (h : IsRow k w a len cap zs) : len ≤ 9223372036854775807 := by
  rcases h with ⟨_, rfl, _⟩ | ⟨x, _, hl, hm, _⟩
  · omega
  · unfold maxLen at hm; omega
theorem slb_of_row {w : World} {a : Option Addr} {len cap : Nat} {zs : List Int} (h : IsRow .u8 w a len cap zs) : Slb w w.heap.size a len := by
  rcases h with ⟨rfl, rfl, rfl, rfl⟩ | ⟨x, rfl, hl, hm, hz, hc, hwf⟩
  · exact fun i hi => absurd hi (Nat.not_lt_zero _)
  · intro i hi
    have hi' : i < zs.length := by omega
    have h0 := hc i hi'
    obtain ⟨b, off, spot⟩ := x
    have hspot : spot = none := by
      have h00 := hc 0 (by omega)
      simpa [Addr.add] using World.cell?_spot h00
    subst hspot
    have e : (⟨b, off, none⟩ : Addr).add i = ⟨b, off + i, none⟩ := by unfold Addr.add; split <;> simp_all
    rw [e] at h0
    have hw := hwf (zs.getD i 0) (by rw [List.getD, List.getElem?_eq_getElem hi']; simp)
    have hb := bounds_u8 hw
    exact ⟨b, off, zs.getD i 0, rfl, blk_lt h0, h0, by omega, by omega⟩

theorem OwnToks.base {w : World} {B B' : Nat} {v : Value} (h : OwnToks w B v) (hB : B' ≤ B) : OwnToks w B' v := by
  obtain ⟨xs, hl, ho⟩ := h
  exact ⟨xs, hl, own_baseT ho hB⟩
theorem OwnInts.base {w : World} {B B' m : Nat} {v : Value} (h : OwnInts w B v m) (hB : B' ≤ B) : OwnInts w B' v m := by
  obtain ⟨xs, hl, ho⟩ := h
  exact ⟨xs, hl, own_baseT ho hB⟩
theorem OwnToks.shape {w : World} {B : Nat} {v : Value} (h : OwnToks w B v) : ∃ a n cap, v = .slice a n cap := by
  obtain ⟨l, _, ho⟩ := h
  obtain ⟨a, cap, e⟩ := own_shapeP ho
  exact ⟨a, _, cap, e⟩

set_option maxRecDepth 100000 in
set_option maxHeartbeats 2000000 in
theorem drawAddOwner_any (a : Option Addr) (n cap : Nat) (w : World) (h : Slb w w.heap.size a n) (hn : n ≤ 1048576) :
    Calls Try.prog 4 #[.slice a n cap] w fun e w' => ∃ v o vp, e = .returned (.tuple #[v, .int .i64 o, vp]) ∧ OwnToks w' w.heap.size v ∧ OwnInts w' w.heap.size vp 5 ∧ Below w.heap.size w w' := by
  have HC := hide (cur_new (cap := cap) h hn)
  clear h
  have hsz0 : (w.alloc (Obj.cells #[.slice a n cap, .int .i64 0, .int .u64 0] 47)).heap.size = w.heap.size + 1 := by simp
  go_enter Try.func4, Try.ntmps4
  go_wp2_with fail
  refine (ring_any _ 0 _ HC.out (by omega)).mono ?_
  rintro e w1 ⟨v, rfl, hT1, hc1, hg1⟩
  rw [hsz0] at hT1
  have T1 := hide hT1
  have C1 := hide hc1
  have G1 := hide hg1
  clear hT1 hc1 hg1
  go_wp2_with fail
  refine (pick_any _ _ 5 _ C1.out (by omega) (by omega) (by omega)).mono ?_
  rintro e w2 ⟨o0, rfl, ho0, _, ho5, hc2, hg2⟩
  have ho5' := ho5 (by omega)
  obtain ⟨k0, rfl⟩ : ∃ k0 : Nat, o0 = (k0 : Int) := ⟨o0.toNat, by omega⟩
  have T2 := hide (T1.out.grown hg2 (by omega))
  have C2 := hide hc2
  have G2 := hide (grown_trans G1.out hg2)
  clear hc2 hg2 ho5 ho0
  go_wp2
  go_loopw [7, 8] (fun av kv wr => ∃ k : Nat, k ≤ 4 ∧ kv = .int .i64 k ∧ OwnInts wr (w.heap.size + 1) av (4 - k) ∧ Hid (OwnToks wr (w.heap.size + 1) v) ∧ Cur wr w.heap.size (0 + 1000 + 2 + 2 * (4 - k)) ∧ (w.alloc (Obj.cells #[.slice a n cap, .int .i64 0, .int .u64 0] 47)).grownBy wr (some w.heap.size)) (fun _ kv _ => (intOf kv).toNat)
  case atStart => exact ⟨k0, by omega, rfl, OwnInts.nil _ _ _, T2.out, C2.out.mono (by omega), G2.out⟩
  case round =>
    obtain ⟨k, hk, rfl, hA, HT, hC, hG⟩ := hrel
    have HA := hide hA
    have HCC := hide hC
    have HG := hide hG
    clear hA hC hG
    by_cases hk0 : 0 < (k : Int)
    · obtain ⟨xa, hal, hao⟩ := HA.out
      obtain ⟨aa, acap, rfl⟩ := own_shapeP hao
      clear hal hao
      go_wp2_with fail
      refine (pick_any _ _ 252 _ HCC.out (by omega) (by omega) (by omega)).mono ?_
      rintro e w4 ⟨x1, rfl, hx1, hx1', _, hc4, hg4⟩
      have A4 := hide (HA.out.grown hg4 (by omega))
      have T4 := hide (HT.out.grown hg4 (by omega))
      have C4 := hide hc4
      have G4 := hide (grown_trans HG.out hg4)
      have hz4 := G4.out.size
      rw [hsz0] at hz4
      clear hc4 hg4
      go_wp2_with fail
      refine (put_any _ (4 - k) _ (w.heap.size + 1) _ hz4 (by omega) A4.out).mono ?_
      rintro e w6 ⟨v6, rfl, hA6, hb6⟩
      have A6 := hide hA6
      have T6 := hide (T4.out.below hb6)
      have C6 := hide (C4.out.below hb6)
      have G6 := hide (grown_below_r G4.out hb6)
      clear hA6 hb6
      go_wp2
      go_roundw
      case rel => exact ⟨k - 1, by omega, by congr 1; omega, by have := A6.out; rwa [show 4 - k + 1 = 4 - (k - 1) by omega] at this, T6.out, C6.out.mono (by omega), G6.out⟩
      case measure => simp [intOf]; omega
    · go_wp2_with fail
      refine (pick_any _ _ 9 _ HCC.out (by omega) (by omega) (by omega)).mono ?_
      rintro e w4 ⟨x1, rfl, hx1, hx1', _, hc4, hg4⟩
      have A4 := hide ((HA.out.grown hg4 (by omega)).base (Nat.le_succ _))
      have T4 := hide ((HT.out.grown hg4 (by omega)).base (Nat.le_succ _))
      have B4 := hide (grown_to_below (grown_trans HG.out hg4))
      clear hc4 hg4
      go_wp2
      go_ret3
      exact ⟨_, _, _, rfl, T4.out, by obtain ⟨q, h1, h2⟩ := A4.out; exact ⟨q, by omega, h2⟩, B4.out⟩

set_option maxRecDepth 100000 in
set_option maxHeartbeats 2000000 in
theorem drawOwnersOf_any (a : Option Addr) (n cap : Nat) (w : World) (h : Slb w w.heap.size a n) (hn : n ≤ 1048576) :
    Calls Try.prog 15 #[.slice a n cap] w fun e w' => ∃ v x y, e = .returned (.tuple #[v, .int .i64 x, .int .i64 y]) ∧ OwnToks w' w.heap.size v ∧ Below w.heap.size w w' := by
  have HC := hide (cur_new (cap := cap) h hn)
  clear h
  have hsz0 : (w.alloc (Obj.cells #[.slice a n cap, .int .i64 0, .int .u64 0] 47)).heap.size = w.heap.size + 1 := by simp
  go_enter Try.func15, Try.ntmps15
  go_wp2_with fail
  refine (ring_any _ 0 _ HC.out (by omega)).mono ?_
  rintro e w1 ⟨v, rfl, hT1, hc1, hg1⟩
  rw [hsz0] at hT1
  have T1 := hide hT1
  have C1 := hide hc1
  have G1 := hide hg1
  clear hT1 hc1 hg1
  go_wp2_with fail
  refine (pick_any _ _ 252 _ C1.out (by omega) (by omega) (by omega)).mono ?_
  rintro e w2 ⟨x2, rfl, hx2, hx2', _, hc2, hg2⟩
  have T2 := hide (T1.out.grown hg2 (by omega))
  have C2 := hide hc2
  have G2 := hide (grown_trans G1.out hg2)
  clear hc2 hg2
  go_wp2_with fail
  refine (pick_any _ _ 6 _ C2.out (by omega) (by omega) (by omega)).mono ?_
  rintro e w3 ⟨x3, rfl, hx3, hx3', _, hc3, hg3⟩
  have T3 := hide ((T2.out.grown hg3 (by omega)).base (Nat.le_succ _))
  have B3 := hide (grown_to_below (grown_trans G2.out hg3))
  clear hc3 hg3
  go_wp2
  go_ret3
  exact ⟨_, _, _, rfl, T3.out, B3.out⟩

end Go.Proofs.Ytkjljkfjcngkcaa.L3
