/-
  Contracts of the specification's cursor (spec.l1Cur), from which the laws draw: next, pick, one, among. They say that a call returns, in which range its answer lies, and that it turns nothing but the cursor itself.
-/
import Derived.Test.YticgejaaoamhmafL1Sl
import Derived.Deep.QuietTactic
import Derived.BigQuiet
import Derived.Lib.Builder
namespace Go.Proofs.Yticgejaaoamhmaf.L1
open Go.RowKit
set_option linter.unusedVariables false

/-- A list of bytes lies in memory, in a block below b. -/
def Slb (w : World) (b : Nat) (a : Option Addr) (n : Nat) : Prop :=
  ∀ i, i < n → ∃ bb off x, a = some ⟨bb, off, none⟩ ∧ bb < b ∧ w.cell? ⟨bb, off + i, none⟩ = some (.int .u8 x) ∧ 0 ≤ x ∧ x < 256
/-- A cursor lies in block b; it stands at most at N. -/
def Cur (w : World) (b N : Nat) : Prop :=
  ∃ (a : Option Addr) (n cap p : Nat) (sd : Int), w.heap[b]? = some (.cells #[.slice a n cap, .int .i64 (p : Int), .int .u64 sd] 66 (0, 0)) ∧ p ≤ N ∧ n ≤ 1048576 ∧ Slb w b a n
theorem Cur.mono {w : World} {b N M : Nat} (h : Cur w b N) (hm : N ≤ M) : Cur w b M := by
  obtain ⟨a, n, cap, p, sd, h1, h2, h3, h4⟩ := h
  exact ⟨a, n, cap, p, sd, h1, by omega, h3, h4⟩
theorem Cur.lt {w : World} {b N : Nat} (h : Cur w b N) : b < w.heap.size := by
  obtain ⟨a, n, cap, p, sd, h1, _⟩ := h
  exact (Array.getElem?_eq_some_iff.1 h1).1
/-- A cursor stays one where its own block and all below it are as they were. -/
theorem Cur.kept {w w' : World} {b N : Nat} (h : Cur w b N) (hb : ∀ k, k ≤ b → w'.heap[k]? = w.heap[k]?) : Cur w' b N := by
  obtain ⟨a, n, cap, p, sd, h1, h2, h3, h4⟩ := h
  refine ⟨a, n, cap, p, sd, by rw [hb b (Nat.le_refl _)]; exact h1, h2, h3, fun i hi => ?_⟩
  obtain ⟨bb, off, x, ha, hlt, hc, hx⟩ := h4 i hi
  exact ⟨bb, off, x, ha, hlt, by rw [World.cell?_of_block (w := w) (hb bb (by omega))]; exact hc, hx⟩
theorem Cur.below {w w' : World} {b N : Nat} (h : Cur w b N) (hb : Below w.heap.size w w') : Cur w' b N :=
  h.kept fun k hk => hb.block k (by have := h.lt; omega)
/-- Only block b has turned; nothing new was laid, or something. -/
theorem grown_trans {a b c : World} {r : Option Nat} (h : a.grownBy b r) (k : b.grownBy c r) : a.grownBy c r :=
  ⟨k.os.trans h.os, k.tape.trans h.tape, k.output.trans h.output, Nat.le_trans h.size k.size, fun i hi hn => (k.block i (Nat.lt_of_lt_of_le hi h.size) hn).trans (h.block i hi hn)⟩
theorem grown_below {a b : World} {r : Nat} (h : a.grownBy b (some r)) : Below r a b ∨ a.heap.size < r := by
  by_cases hr : r ≤ a.heap.size
  · exact .inl ⟨h.os, h.tape, h.output, h.size, fun k hk => h.block k (by omega) (by simp; omega)⟩
  · exact .inr (by omega)
theorem below_grown {a b : World} {r : Option Nat} (h : Below a.heap.size a b) : a.grownBy b r :=
  ⟨h.os, h.tape, h.output, h.size, fun k hk _ => h.block k hk⟩
theorem and255_bd (y : Int) : 0 ≤ wrap64 (bits .and .u64 y 255) ∧ wrap64 (bits .and .u64 y 255) ≤ 255 := by
  have h : bits .and .u64 y 255 = IntKind.u64.wrap ((BitVec.ofInt 64 y &&& BitVec.ofInt 64 255).toNat : Nat) := rfl
  have h2 : (BitVec.ofInt 64 y &&& BitVec.ofInt 64 255).toNat ≤ 255 := by
    rw [BitVec.toNat_and]
    exact Nat.and_le_right
  rw [h, IntKind.wrap_u64]
  generalize (BitVec.ofInt 64 y &&& BitVec.ofInt 64 255).toNat = m at h2
  unfold wrap64
  omega

theorem cur_step {w W' : World} {b N n cap p : Nat} {a : Option Addr} {sd s' : Int} (hbk : w.heap[b]? = some (.cells #[.slice a n cap, .int .i64 (p : Int), .int .u64 sd] 66 (0, 0))) (hp : p ≤ N) (hn : n ≤ 1048576) (hs : Slb w b a n)
    (hh : W'.heap = ((w.setCell ⟨b, 1, none⟩ (.int .i64 ((p : Int) + 1))).setCell ⟨b, 2, none⟩ (.int .u64 s')).heap) (ho : W'.os = w.os) (ht : W'.tape = w.tape) (hu : W'.output = w.output) :
    Cur W' b (N + 1) ∧ w.grownBy W' (some b) := by
  have h1 := heap_setCell_same w b 1 _ _ (.int .i64 ((p : Int) + 1)) hbk
  have h2 := heap_setCell_same _ b 2 _ _ (.int .u64 s') h1
  have hoth : ∀ k, k ≠ b → W'.heap[k]? = w.heap[k]? := fun k hk => by
    rw [hh, Below.heap_setCell _ _ _ _ (by simpa using hk), Below.heap_setCell _ _ _ _ (by simpa using hk)]
  refine ⟨⟨a, n, cap, p + 1, s', by rw [hh, h2]; rfl, by omega, hn, fun i hi => ?_⟩, ⟨ho, ht, hu, by rw [hh]; simp [World.setCell], fun k _ hk => hoth k (fun e => hk (by rw [e]))⟩⟩
  obtain ⟨bb, off, x, ha, hlt, hc, hx⟩ := hs i hi
  exact ⟨bb, off, x, ha, hlt, by rw [World.cell?_of_block (w := w) (hoth bb (by omega))]; exact hc, hx⟩

set_option maxRecDepth 100000 in
set_option maxHeartbeats 1000000 in
theorem next_any (b N : Nat) (w : World) (h : Cur w b N) (hN : N ≤ 1000000000000) :
    Calls Try.prog 81 #[.pointer (some ⟨b, 0, none⟩)] w fun e w' => ∃ x : Int, e = .returned (.int .i64 x) ∧ 0 ≤ x ∧ x ≤ 255 ∧ Cur w' b (N + 1) ∧ w.grownBy w' (some b) := by
  obtain ⟨a, n, cap, p, sd, hbk, hp, hn, hs⟩ := h
  have c0 : w.cell? ⟨b, 0, none⟩ = some (.slice a n cap) := Lib.cell_of_heap hbk 0
  have c1 : w.cell? ⟨b, 1, none⟩ = some (.int .i64 (p : Int)) := Lib.cell_of_heap hbk 1
  have c2 : w.cell? ⟨b, 2, none⟩ = some (.int .u64 sd) := Lib.cell_of_heap hbk 2
  have f1 := Lib.frozen_of_heap hbk 1
  have f2 := Lib.frozen_of_heap hbk 2
  have HB := hide hbk
  have HS := hide hs
  clear hbk hs
  by_cases hlt : p < n
  · obtain ⟨bb, off, x, rfl, hbb, hc, hx0, hx1⟩ := HS.out p hlt
    have hltI : (p : Int) < (n : Int) := by omega
    have hltJ : (p : Int) + 1 ≤ (n : Int) := by omega
    go_enter Try.func81, Try.ntmps81
    go_wp2
    go_quiet (fail)
    go_wp2
    go_quiet (fail)
    go_wp2
    go_quiet (fail)
    go_wp2
    go_ret
    exact ⟨x, rfl, hx0, by omega, cur_step HB.out hp hn HS.out rfl rfl rfl rfl⟩
  · have hltI : ¬ (p : Int) < (n : Int) := by omega
    have hltJ : ¬ (p : Int) + 1 ≤ (n : Int) := by omega
    go_enter Try.func81, Try.ntmps81
    go_wp2
    go_quiet (fail)
    go_wp2
    go_quiet (fail)
    go_wp2
    go_ret
    exact ⟨_, rfl, (and255_bd _).1, (and255_bd _).2, cur_step HB.out hp hn HS.out rfl rfl rfl rfl⟩

theorem emod_le_self (a n : Int) (ha : 0 ≤ a) (hn : 0 < n) : a % n ≤ a := by
  have h1 := Int.mul_ediv_add_emod a n
  have h2 : 0 ≤ n * (a / n) := Int.mul_nonneg (by omega) (Int.ediv_nonneg ha (by omega))
  omega

set_option maxRecDepth 100000 in
set_option maxHeartbeats 1000000 in
theorem pick_any (b N : Nat) (n : Int) (w : World) (h : Cur w b N) (hN : N ≤ 1000000000) (hn1 : -1000000000000 ≤ n) (hn2 : n ≤ 1000000000000) :
    Calls Try.prog 70 #[.pointer (some ⟨b, 0, none⟩), .int .i64 n] w fun e w' => ∃ x : Int, e = .returned (.int .i64 x) ∧ 0 ≤ x ∧ x ≤ 65535 ∧ (1 ≤ n → x < n) ∧ Cur w' b (N + 2) ∧ w.grownBy w' (some b) := by
  have HC := hide h
  clear h
  by_cases h1 : n ≤ 1
  · go_enter Try.func70, Try.ntmps70
    go_wp2
    go_ret
    exact ⟨0, rfl, by omega, by omega, by omega, HC.out.mono (by omega), ⟨rfl, rfl, rfl, Nat.le_refl _, fun _ _ _ => rfl⟩⟩
  · have h0 : 0 < n := by omega
    by_cases h200 : 200 < n
    · go_enter Try.func70, Try.ntmps70
      go_wp2_with fail
      refine (next_any b N _ HC.out (by omega)).mono ?_
      rintro e w1 ⟨x, rfl, hx0, hx1, hc1, hg1⟩
      have H1 := hide hc1
      have G1 := hide hg1
      clear hc1 hg1
      go_wp2_with fail
      refine (next_any b (N + 1) _ H1.out (by omega)).mono ?_
      rintro e w2 ⟨y, rfl, hy0, hy1, hc2, hg2⟩
      have H2 := hide hc2
      have G2 := hide (grown_trans G1.out hg2)
      have hm0 : 0 ≤ (x * 256 + y) % n := Int.emod_nonneg _ (by omega)
      have hm1 : (x * 256 + y) % n < n := Int.emod_lt_of_pos _ h0
      have hm2 : (x * 256 + y) % n ≤ x * 256 + y := emod_le_self _ _ (by omega) h0
      clear hc2 hg2
      go_wp2
      go_ret
      exact ⟨_, rfl, hm0, by omega, fun _ => hm1, H2.out, G2.out⟩
    · go_enter Try.func70, Try.ntmps70
      go_wp2_with fail
      refine (next_any b N _ HC.out (by omega)).mono ?_
      rintro e w1 ⟨x, rfl, hx0, hx1, hc1, hg1⟩
      have H1 := hide hc1
      have G1 := hide hg1
      have hm0 : 0 ≤ x % n := Int.emod_nonneg _ (by omega)
      have hm1 : x % n < n := Int.emod_lt_of_pos _ h0
      have hm2 : x % n ≤ x := emod_le_self _ _ (by omega) h0
      clear hc1 hg1
      go_wp2
      go_ret
      exact ⟨_, rfl, hm0, by omega, fun _ => hm1, H1.out.mono (by omega), G1.out⟩

set_option maxRecDepth 100000 in
set_option maxHeartbeats 400000 in
theorem one_any (b N : Nat) (n : Int) (w : World) (h : Cur w b N) (hN : N ≤ 1000000000) (hn1 : -1000000000000 ≤ n) (hn2 : n ≤ 1000000000000) :
    Calls Try.prog 71 #[.pointer (some ⟨b, 0, none⟩), .int .i64 n] w fun e w' => ∃ t : Bool, e = .returned (.bool t) ∧ Cur w' b (N + 2) ∧ w.grownBy w' (some b) := by
  have HC := hide h
  clear h
  go_enter Try.func71, Try.ntmps71
  go_wp2_with fail
  refine (pick_any b N _ _ HC.out hN hn1 hn2).mono ?_
  rintro e w1 ⟨x, rfl, hx0, hx1, _, hc1, hg1⟩
  have H1 := hide hc1
  have G1 := hide hg1
  clear hc1 hg1
  go_wp2
  go_ret
  exact ⟨_, rfl, H1.out, G1.out⟩

theorem lit_row (w : World) (cs : Array Value) (xs : List Int) (h : cs.toList = xs.map (Value.int .i64)) : Sl (w.alloc (.cells cs 3)) (some ⟨w.heap.size, 0, none⟩) xs := fun i hi => by
  refine ⟨w.heap.size, 0, rfl, ?_⟩
  have hb : (w.alloc (.cells cs 3)).heap[w.heap.size]? = some (.cells cs 3 (0, 0)) := by show (w.heap.push _)[w.heap.size]? = _; simp
  rw [Lib.cell_of_heap hb, Nat.zero_add, ← Array.getElem?_toList, h, List.getElem?_map, List.getElem?_eq_getElem hi]
  simp [List.getD, List.getElem?_eq_getElem hi]
theorem grown_alloc (w : World) (o : Obj) (b : Nat) : w.grownBy (w.alloc o) (some b) := World.grownBy_alloc w o (some b)
theorem Cur.alloc {w : World} {b N : Nat} (h : Cur w b N) (o : Obj) : Cur (w.alloc o) b N :=
  h.below ((Below.refl _ _).alloc (Nat.le_refl _) _)

end Go.Proofs.Yticgejaaoamhmaf.L1
