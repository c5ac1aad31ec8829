/-
  Contract of the law's own helper: laws.sameSamples says that two lists alike are alike.
  Contracts of the specification's cursor (spec.l1Cur), from which the laws draw: next, pick, one, among. They say that a call returns, in which range its answer lies, and that it turns nothing but the cursor itself.
  Texts as lists of bytes. Nothing of the program's text is proved here.
  Contracts of the specification's cursor: values (a list of at most eight numbers), spoilt (a text with a byte more, less, or another one).
  A row of bytes as a text. Nothing of the program's text is proved here but closed facts on its types.
  Contract: spec.l1Varint makes the digits to 128 of a number's ZigZag, as a text; memory that was there stays as it was.
  Contracts of the specification's draws of chapter 1: each returns, within the bounds told, and turns nothing that was there.
  Contracts: the times and the values of samples, each gathered in new memory (spec.l2Parts).
-/
import Derived.Test.YtapffbbmofhpoaaDoorBundle1
import Derived.Deep.QuietTactic
import Derived.BigQuiet
import Derived.Lib.Builder
import Derived.Maps.AppendAt
namespace Go.Proofs.YtapffbbmofhpoaaDoor.L1
open Go.RowKit
set_option linter.unusedVariables false

set_option maxRecDepth 100000 in
set_option maxHeartbeats 1000000 in
theorem sameSamples_same (a b : Option Addr) (xs : List (Int × Int)) (n c1 c2 : Nat) (w : World) (hn : xs.length = n) (ha : Sl2 w a xs) (hb : Sl2 w b xs) (hn2 : n ≤ 1048576) :
    Calls Tryd.prog 41 #[.slice a n c1, .slice b n c2] w fun e w' => e = .returned (.bool true) ∧ Below w.heap.size w w' := by
  have HA := hide ha
  have HB := hide hb
  have HN := hide hn
  clear ha hb hn
  go_enter Tryd.func41, Tryd.ntmps41
  go_wp2
  go_loopw [13] (fun i wr => ∃ k : Nat, k ≤ n ∧ i = .int .i64 k ∧ Below w.heap.size w wr) (fun i _ => n - (intOf i).toNat)
  case atStart => exact ⟨0, Nat.zero_le _, rfl, Below.refl _ _⟩
  case round =>
    obtain ⟨k, hk, rfl, hbel⟩ := hrel
    by_cases hlt : k < n
    · obtain ⟨b1, o1, rfl, h1, h1'⟩ := HA.out k (by rw [HN.out]; exact hlt)
      obtain ⟨b2, o2, rfl, h2, h2'⟩ := HB.out k (by rw [HN.out]; exact hlt)
      have g1 := (hbel.cell (p := ⟨b1, o1 + k * 2, none⟩) (blk_lt h1)).trans h1
      have g1' := (hbel.cell (p := ⟨b1, o1 + k * 2 + 1, none⟩) (blk_lt h1')).trans h1'
      have g2 := (hbel.cell (p := ⟨b2, o2 + k * 2, none⟩) (blk_lt h2)).trans h2
      have g2' := (hbel.cell (p := ⟨b2, o2 + k * 2 + 1, none⟩) (blk_lt h2')).trans h2'
      obtain ⟨x, hx⟩ : ∃ x, x = (xs.getD k (0, 0)).1 := ⟨_, rfl⟩
      obtain ⟨y, hy⟩ : ∃ y, y = (xs.getD k (0, 0)).2 := ⟨_, rfl⟩
      rw [← hx] at g1 g2
      rw [← hy] at g1' g2'
      have hltI : (k : Int) < (n : Int) := by omega
      have hk0 : (0 : Int) ≤ (k : Int) := by omega
      clear h1 h2 h1' h2' hx hy
      go_wp2
      go_quiet (fail)
      go_wp2
      go_roundw
      case rel => exact ⟨k + 1, by omega, by go_num, below_drewN hbel _⟩
      case measure => simp [intOf]; omega
    · have hltI : ¬ (k : Int) < (n : Int) := by omega
      go_wp2
      go_ret
      exact ⟨rfl, hbel⟩
end Go.Proofs.YtapffbbmofhpoaaDoor.L1

namespace Go.Proofs.YtapffbbmofhpoaaDoor.L1
open Go.RowKit
set_option linter.unusedVariables false

/-- A list of bytes lies in memory, in a block below b. -/
def Slb (w : World) (b : Nat) (a : Option Addr) (n : Nat) : Prop :=
  ∀ i, i < n → ∃ bb off x, a = some ⟨bb, off, none⟩ ∧ bb < b ∧ w.cell? ⟨bb, off + i, none⟩ = some (.int .u8 x) ∧ 0 ≤ x ∧ x < 256
/-- A cursor lies in block b; it stands at most at N. -/
def Cur (w : World) (b N : Nat) : Prop :=
  ∃ (a : Option Addr) (n cap p : Nat) (sd : Int), w.heap[b]? = some (.cells #[.slice a n cap, .int .i64 (p : Int), .int .u64 sd] 79 (0, 0)) ∧ p ≤ N ∧ n ≤ 1048576 ∧ Slb w b a n
theorem Cur.mono {w : World} {b N M : Nat} (h : Cur w b N) (hm : N ≤ M) : Cur w b M := by
  obtain ⟨a, n, cap, p, sd, h1, h2, h3, h4⟩ := h
  exact ⟨a, n, cap, p, sd, h1, by omega, h3, h4⟩
theorem Cur.lt {w : World} {b N : Nat} (h : Cur w b N) : b < w.heap.size := by
  obtain ⟨a, n, cap, p, sd, h1, _⟩ := h
  exact (Array.getElem?_eq_some_iff.1 h1).1
/-- A cursor stays one where its own block and all below it are as they were. -/
theorem Cur.kept {w w' : World} {b N : Nat} (h : Cur w b N) (hb : ∀ k, k ≤ b → w'.heap[k]? = w.heap[k]?) : Cur w' b N := by
  obtain ⟨a, n, cap, p, sd, h1, h2, h3, h4⟩ := h
  refine ⟨a, n, cap, p, sd, by rw [hb b (Nat.le_refl _)]; exact h1, h2, h3, fun i hi => ?_⟩
  obtain ⟨bb, off, x, ha, hlt, hc, hx⟩ := h4 i hi
  exact ⟨bb, off, x, ha, hlt, by rw [World.cell?_of_block (w := w) (hb bb (by omega))]; exact hc, hx⟩
theorem Cur.below {w w' : World} {b N : Nat} (h : Cur w b N) (hb : Below w.heap.size w w') : Cur w' b N :=
  h.kept fun k hk => hb.block k (by have := h.lt; omega)
/-- Only block b has turned; nothing new was laid, or something. -/
theorem grown_trans {a b c : World} {r : Option Nat} (h : a.grownBy b r) (k : b.grownBy c r) : a.grownBy c r :=
  ⟨k.os.trans h.os, k.tape.trans h.tape, k.output.trans h.output, Nat.le_trans h.size k.size, fun i hi hn => (k.block i (Nat.lt_of_lt_of_le hi h.size) hn).trans (h.block i hi hn)⟩
theorem grown_below {a b : World} {r : Nat} (h : a.grownBy b (some r)) : Below r a b ∨ a.heap.size < r := by
  by_cases hr : r ≤ a.heap.size
  · exact .inl ⟨h.os, h.tape, h.output, h.size, fun k hk => h.block k (by omega) (by simp; omega)⟩
  · exact .inr (by omega)
theorem below_grown {a b : World} {r : Option Nat} (h : Below a.heap.size a b) : a.grownBy b r :=
  ⟨h.os, h.tape, h.output, h.size, fun k hk _ => h.block k hk⟩
theorem and255_bd (y : Int) : 0 ≤ wrap64 (bits .and .u64 y 255) ∧ wrap64 (bits .and .u64 y 255) ≤ 255 := by
  have h : bits .and .u64 y 255 = IntKind.u64.wrap ((BitVec.ofInt 64 y &&& BitVec.ofInt 64 255).toNat : Nat) := rfl
  have h2 : (BitVec.ofInt 64 y &&& BitVec.ofInt 64 255).toNat ≤ 255 := by
    rw [BitVec.toNat_and]
    exact Nat.and_le_right
  rw [h, IntKind.wrap_u64]
  generalize (BitVec.ofInt 64 y &&& BitVec.ofInt 64 255).toNat = m at h2
  unfold wrap64
  omega

theorem cur_step {w W' : World} {b N n cap p : Nat} {a : Option Addr} {sd s' : Int} (hbk : w.heap[b]? = some (.cells #[.slice a n cap, .int .i64 (p : Int), .int .u64 sd] 79 (0, 0))) (hp : p ≤ N) (hn : n ≤ 1048576) (hs : Slb w b a n)
    (hh : W'.heap = ((w.setCell ⟨b, 1, none⟩ (.int .i64 ((p : Int) + 1))).setCell ⟨b, 2, none⟩ (.int .u64 s')).heap) (ho : W'.os = w.os) (ht : W'.tape = w.tape) (hu : W'.output = w.output) :
    Cur W' b (N + 1) ∧ w.grownBy W' (some b) := by
  have h1 := heap_setCell_same w b 1 _ _ (.int .i64 ((p : Int) + 1)) hbk
  have h2 := heap_setCell_same _ b 2 _ _ (.int .u64 s') h1
  have hoth : ∀ k, k ≠ b → W'.heap[k]? = w.heap[k]? := fun k hk => by
    rw [hh, Below.heap_setCell _ _ _ _ (by simpa using hk), Below.heap_setCell _ _ _ _ (by simpa using hk)]
  refine ⟨⟨a, n, cap, p + 1, s', by rw [hh, h2]; rfl, by omega, hn, fun i hi => ?_⟩, ⟨ho, ht, hu, by rw [hh]; simp [World.setCell], fun k _ hk => hoth k (fun e => hk (by rw [e]))⟩⟩
  obtain ⟨bb, off, x, ha, hlt, hc, hx⟩ := hs i hi
  exact ⟨bb, off, x, ha, hlt, by rw [World.cell?_of_block (w := w) (hoth bb (by omega))]; exact hc, hx⟩

set_option maxRecDepth 100000 in
set_option maxHeartbeats 1000000 in
theorem next_any (b N : Nat) (w : World) (h : Cur w b N) (hN : N ≤ 1000000000000) :
    Calls Tryd.prog 126 #[.pointer (some ⟨b, 0, none⟩)] w fun e w' => ∃ x : Int, e = .returned (.int .i64 x) ∧ 0 ≤ x ∧ x ≤ 255 ∧ Cur w' b (N + 1) ∧ w.grownBy w' (some b) := by
  obtain ⟨a, n, cap, p, sd, hbk, hp, hn, hs⟩ := h
  have c0 : w.cell? ⟨b, 0, none⟩ = some (.slice a n cap) := Lib.cell_of_heap hbk 0
  have c1 : w.cell? ⟨b, 1, none⟩ = some (.int .i64 (p : Int)) := Lib.cell_of_heap hbk 1
  have c2 : w.cell? ⟨b, 2, none⟩ = some (.int .u64 sd) := Lib.cell_of_heap hbk 2
  have f1 := Lib.frozen_of_heap hbk 1
  have f2 := Lib.frozen_of_heap hbk 2
  have HB := hide hbk
  have HS := hide hs
  clear hbk hs
  by_cases hlt : p < n
  · obtain ⟨bb, off, x, rfl, hbb, hc, hx0, hx1⟩ := HS.out p hlt
    have hltI : (p : Int) < (n : Int) := by omega
    have hltJ : (p : Int) + 1 ≤ (n : Int) := by omega
    go_enter Tryd.func126, Tryd.ntmps126
    go_wp2
    go_quiet (fail)
    go_wp2
    go_quiet (fail)
    go_wp2
    go_quiet (fail)
    go_wp2
    go_ret
    exact ⟨x, rfl, hx0, by omega, cur_step HB.out hp hn HS.out rfl rfl rfl rfl⟩
  · have hltI : ¬ (p : Int) < (n : Int) := by omega
    have hltJ : ¬ (p : Int) + 1 ≤ (n : Int) := by omega
    go_enter Tryd.func126, Tryd.ntmps126
    go_wp2
    go_quiet (fail)
    go_wp2
    go_quiet (fail)
    go_wp2
    go_ret
    exact ⟨_, rfl, (and255_bd _).1, (and255_bd _).2, cur_step HB.out hp hn HS.out rfl rfl rfl rfl⟩

theorem emod_le_self (a n : Int) (ha : 0 ≤ a) (hn : 0 < n) : a % n ≤ a := by
  have h1 := Int.mul_ediv_add_emod a n
  have h2 : 0 ≤ n * (a / n) := Int.mul_nonneg (by omega) (Int.ediv_nonneg ha (by omega))
  omega

set_option maxRecDepth 100000 in
set_option maxHeartbeats 1000000 in
theorem pick_any (b N : Nat) (n : Int) (w : World) (h : Cur w b N) (hN : N ≤ 1000000000) (hn1 : -1000000000000 ≤ n) (hn2 : n ≤ 1000000000000) :
    Calls Tryd.prog 80 #[.pointer (some ⟨b, 0, none⟩), .int .i64 n] w fun e w' => ∃ x : Int, e = .returned (.int .i64 x) ∧ 0 ≤ x ∧ x ≤ 65535 ∧ (1 ≤ n → x < n) ∧ Cur w' b (N + 2) ∧ w.grownBy w' (some b) := by
  have HC := hide h
  clear h
  by_cases h1 : n ≤ 1
  · go_enter Tryd.func80, Tryd.ntmps80
    go_wp2
    go_ret
    exact ⟨0, rfl, by omega, by omega, by omega, HC.out.mono (by omega), ⟨rfl, rfl, rfl, Nat.le_refl _, fun _ _ _ => rfl⟩⟩
  · have h0 : 0 < n := by omega
    by_cases h200 : 200 < n
    · go_enter Tryd.func80, Tryd.ntmps80
      go_wp2_with fail
      refine (next_any b N _ HC.out (by omega)).mono ?_
      rintro e w1 ⟨x, rfl, hx0, hx1, hc1, hg1⟩
      have H1 := hide hc1
      have G1 := hide hg1
      clear hc1 hg1
      go_wp2_with fail
      refine (next_any b (N + 1) _ H1.out (by omega)).mono ?_
      rintro e w2 ⟨y, rfl, hy0, hy1, hc2, hg2⟩
      have H2 := hide hc2
      have G2 := hide (grown_trans G1.out hg2)
      have hm0 : 0 ≤ (x * 256 + y) % n := Int.emod_nonneg _ (by omega)
      have hm1 : (x * 256 + y) % n < n := Int.emod_lt_of_pos _ h0
      have hm2 : (x * 256 + y) % n ≤ x * 256 + y := emod_le_self _ _ (by omega) h0
      clear hc2 hg2
      go_wp2
      go_ret
      exact ⟨_, rfl, hm0, by omega, fun _ => hm1, H2.out, G2.out⟩
    · go_enter Tryd.func80, Tryd.ntmps80
      go_wp2_with fail
      refine (next_any b N _ HC.out (by omega)).mono ?_
      rintro e w1 ⟨x, rfl, hx0, hx1, hc1, hg1⟩
      have H1 := hide hc1
      have G1 := hide hg1
      have hm0 : 0 ≤ x % n := Int.emod_nonneg _ (by omega)
      have hm1 : x % n < n := Int.emod_lt_of_pos _ h0
      have hm2 : x % n ≤ x := emod_le_self _ _ (by omega) h0
      clear hc1 hg1
      go_wp2
      go_ret
      exact ⟨_, rfl, hm0, by omega, fun _ => hm1, H1.out.mono (by omega), G1.out⟩

set_option maxRecDepth 100000 in
set_option maxHeartbeats 400000 in
theorem one_any (b N : Nat) (n : Int) (w : World) (h : Cur w b N) (hN : N ≤ 1000000000) (hn1 : -1000000000000 ≤ n) (hn2 : n ≤ 1000000000000) :
    Calls Tryd.prog 82 #[.pointer (some ⟨b, 0, none⟩), .int .i64 n] w fun e w' => ∃ t : Bool, e = .returned (.bool t) ∧ Cur w' b (N + 2) ∧ w.grownBy w' (some b) := by
  have HC := hide h
  clear h
  go_enter Tryd.func82, Tryd.ntmps82
  go_wp2_with fail
  refine (pick_any b N _ _ HC.out hN hn1 hn2).mono ?_
  rintro e w1 ⟨x, rfl, hx0, hx1, _, hc1, hg1⟩
  have H1 := hide hc1
  have G1 := hide hg1
  clear hc1 hg1
  go_wp2
  go_ret
  exact ⟨_, rfl, H1.out, G1.out⟩

set_option maxRecDepth 100000 in
set_option maxHeartbeats 400000 in
theorem among_any (b N g m cap : Nat) (xs : List Int) (w : World) (h : Cur w b N) (hN : N ≤ 1000000000) (hxs : xs.length = m) (h1 : 1 ≤ m) (h2 : m ≤ 1000) (hg : g ≠ b) (hs : Sl w (some ⟨g, 0, none⟩) xs) :
    Calls Tryd.prog 89 #[.pointer (some ⟨b, 0, none⟩), .slice (some ⟨g, 0, none⟩) m cap] w fun e w' => ∃ j, j < m ∧ e = .returned (.int .i64 (xs.getD j 0)) ∧ Cur w' b (N + 2) ∧ w.grownBy w' (some b) := by
  have HC := hide h
  have HS := hide hs
  have HX := hide hxs
  clear h hs hxs
  go_enter Tryd.func89, Tryd.ntmps89
  go_wp2_with fail
  refine (pick_any b N _ _ HC.out hN (by omega) (by omega)).mono ?_
  rintro e w1 ⟨x, rfl, hx0, hx1, hxm, hc1, hg1⟩
  have hxm' : x < (m : Int) := hxm (by omega)
  clear hxm
  obtain ⟨j, rfl⟩ : ∃ j : Nat, x = (j : Int) := ⟨x.toNat, by omega⟩
  have hc0 := HS.out.at j (by rw [HX.out]; omega)
  have hc : w1.cell? ⟨g, 0 + j, none⟩ = some (.int .i64 (xs.getD j 0)) := by
    rw [World.cell?_of_block (w := w) (hg1.block g (blk_lt hc0) (by simpa using hg))]
    exact hc0
  simp only [Nat.zero_add] at hc
  have H1 := hide hc1
  have G1 := hide hg1
  have hj : j < m := by omega
  obtain ⟨y, hy⟩ : ∃ y, y = xs.getD j 0 := ⟨_, rfl⟩
  rw [← hy] at hc
  have HY := hide hy
  clear hc1 hg1 hc0 hy
  go_wp2
  go_ret
  exact ⟨j, hj, by rw [← HY.out]; rfl, H1.out, G1.out⟩

theorem lit_row (w : World) (cs : Array Value) (xs : List Int) (h : cs.toList = xs.map (Value.int .i64)) : Sl (w.alloc (.cells cs 3)) (some ⟨w.heap.size, 0, none⟩) xs := fun i hi => by
  refine ⟨w.heap.size, 0, rfl, ?_⟩
  have hb : (w.alloc (.cells cs 3)).heap[w.heap.size]? = some (.cells cs 3 (0, 0)) := by show (w.heap.push _)[w.heap.size]? = _; simp
  rw [Lib.cell_of_heap hb, Nat.zero_add, ← Array.getElem?_toList, h, List.getElem?_map, List.getElem?_eq_getElem hi]
  simp [List.getD, List.getElem?_eq_getElem hi]
theorem grown_alloc (w : World) (o : Obj) (b : Nat) : w.grownBy (w.alloc o) (some b) := World.grownBy_alloc w o (some b)
theorem Cur.alloc {w : World} {b N : Nat} (h : Cur w b N) (o : Obj) : Cur (w.alloc o) b N :=
  h.below ((Below.refl _ _).alloc (Nat.le_refl _) _)

set_option maxRecDepth 100000 in
set_option maxHeartbeats 1000000 in
theorem value_any (b N : Nat) (w : World) (h : Cur w b N) (hN : N ≤ 100000000) :
    Calls Tryd.prog 125 #[.pointer (some ⟨b, 0, none⟩)] w fun e w' => ∃ x : Int, e = .returned (.int .i64 x) ∧ -2000000000000 ≤ x ∧ x ≤ 2000000000000 ∧ Cur w' b (N + 6) ∧ w.grownBy w' (some b) := by
  have HC := hide h
  clear h
  go_enter Tryd.func125, Tryd.ntmps125
  go_wp2_with fail
  refine (one_any b N _ _ HC.out (by omega) (by omega) (by omega)).mono ?_
  rintro e w1 ⟨t, rfl, hc1, hg1⟩
  have H1 := hide hc1
  have G1 := hide hg1
  have hlt := hc1.lt
  have hne : w1.heap.size ≠ b := by omega
  clear hc1 hg1
  cases t with
  | true =>
    have hbd : ∀ j, j < 11 → -2000000000000 ≤ [(0 : Int), 63, 64, -64, -65, 8191, 8192, 1000000000000, -1000000000000, 1000000000001, -1000000000001].getD j 0 ∧ [(0 : Int), 63, 64, -64, -65, 8191, 8192, 1000000000000, -1000000000000, 1000000000001, -1000000000001].getD j 0 ≤ 2000000000000 := by decide
    have HBD := hide hbd
    clear hbd
    go_wp2_with fail
    refine (among_any b (N + 2) w1.heap.size 11 11 [0, 63, 64, -64, -65, 8191, 8192, 1000000000000, -1000000000000, 1000000000001, -1000000000001] _ (H1.out.alloc _) (by omega) rfl (by omega) (by omega) hne (lit_row w1 _ _ rfl)).mono ?_
    rintro e w2 ⟨j, hj, rfl, hc2, hg2⟩
    have hb := HBD.out j hj
    have H2 := hide hc2
    have G2 := hide (grown_trans (grown_trans G1.out (grown_alloc _ _ _)) hg2)
    obtain ⟨y, hy⟩ : ∃ y, y = [(0 : Int), 63, 64, -64, -65, 8191, 8192, 1000000000000, -1000000000000, 1000000000001, -1000000000001].getD j 0 := ⟨_, rfl⟩
    rw [← hy] at hb ⊢
    obtain ⟨hb1, hb2⟩ := hb
    clear hc2 hg2 hy
    go_wp2
    go_ret
    exact ⟨y, rfl, hb1, hb2, H2.out.mono (by omega), G2.out⟩
  | false =>
    have hbd : ∀ j, j < 6 → 0 ≤ [(1 : Int), 1, 1, 77, 10007, 123456789].getD j 0 ∧ [(1 : Int), 1, 1, 77, 10007, 123456789].getD j 0 ≤ 123456789 := by decide
    have HBD := hide hbd
    clear hbd
    go_wp2_with fail
    refine (pick_any b (N + 2) _ _ H1.out (by omega) (by omega) (by omega)).mono ?_
    rintro e w2 ⟨x, rfl, hx0, hx1, hx2, hc2, hg2⟩
    have hx3 : x < 256 := hx2 (by omega)
    have H2 := hide hc2
    have G2 := hide (grown_trans G1.out hg2)
    have hlt2 := hc2.lt
    have hne2 : w2.heap.size ≠ b := by omega
    clear hc2 hg2 hx2
    go_wp2_with fail
    refine (among_any b (N + 4) w2.heap.size 6 6 [1, 1, 1, 77, 10007, 123456789] _ (H2.out.alloc _) (by omega) rfl (by omega) (by omega) hne2 (lit_row w2 _ _ rfl)).mono ?_
    rintro e w3 ⟨j, hj, rfl, hc3, hg3⟩
    have hb := HBD.out j hj
    have H3 := hide hc3
    have G3 := hide (grown_trans (grown_trans G2.out (grown_alloc _ _ _)) hg3)
    obtain ⟨y, hy⟩ : ∃ y, y = [(1 : Int), 1, 1, 77, 10007, 123456789].getD j 0 := ⟨_, rfl⟩
    rw [← hy] at hb ⊢
    obtain ⟨hb1, hb2⟩ := hb
    have hp1 : -128 * 123456789 ≤ (x - 128) * y := by
      have h1 : -128 * y ≤ (x - 128) * y := Int.mul_le_mul_of_nonneg_right (by omega) hb1
      omega
    have hp2 : (x - 128) * y ≤ 128 * 123456789 := by
      have h1 : (x - 128) * y ≤ 128 * y := Int.mul_le_mul_of_nonneg_right (by omega) hb1
      omega
    clear hc3 hg3 hy
    go_wp2
    go_ret
    exact ⟨_, rfl, by omega, by omega, H3.out.mono (by omega), G3.out⟩
end Go.Proofs.YtapffbbmofhpoaaDoor.L1

namespace Go.Proofs.YtapffbbmofhpoaaDoor.L1
open Go.RowKit
set_option linter.unusedVariables false

/-- A text's bytes from a place on. -/
def bts (s : ByteArray) (a : Nat) : List Int := (s.data.toList.drop a).map fun c => (c.toNat : Int)
theorem bts_len (s : ByteArray) (a : Nat) : (bts s a).length = s.size - a := by simp [bts]
theorem bts_get (s : ByteArray) (a k : Nat) (h : a + k < s.size) : (bts s a).getD k 0 = ((s[a + k]'h).toNat : Int) := by
  have h2 : a + k < s.data.toList.length := by simpa using h
  simp only [bts, List.getD, List.getElem?_map, List.getElem?_drop, List.getElem?_eq_getElem h2, Option.map_some, Option.getD_some]
  rfl
theorem bts_byte (s : ByteArray) (a k : Nat) : 0 ≤ (bts s a).getD k 0 ∧ (bts s a).getD k 0 < 256 := by
  by_cases h : a + k < s.size
  · rw [bts_get s a k h]
    have := (s[a + k]'h).toNat_lt
    omega
  · simp only [List.getD, List.getElem?_eq_none (show (bts s a).length ≤ k by rw [bts_len]; omega)]
    simp

/-- The text of digits that stand in a text is that piece of it. -/
theorem str_piece (s : ByteArray) (a j : Nat) (h : a + j ≤ s.size) : strOfNums ((bts s a).take j) = s.extract a (a + j) := by
  apply ByteArray.ext
  apply Array.toList_inj.1
  simp only [strOfNums, bts, ByteArray.data_extract, Array.toList_extract]
  rw [← List.map_take, List.map_map]
  have e : (fun n : Int => UInt8.ofNat n.toNat) ∘ (fun c : UInt8 => (c.toNat : Int)) = id := by
    funext c
    simp
  rw [e]
  simp
theorem str_inj : ∀ {l m : List Int}, (∀ x ∈ l, 0 ≤ x ∧ x < 256) → (∀ x ∈ m, 0 ≤ x ∧ x < 256) → strOfNums l = strOfNums m → l = m := by
  intro l m hl hm h
  have h2 : l.map (fun n : Int => UInt8.ofNat n.toNat) = m.map (fun n : Int => UInt8.ofNat n.toNat) := by
    have := congrArg (fun b => b.data.toList) h
    simpa [strOfNums] using this
  clear h
  induction l generalizing m with
  | nil => cases m with
    | nil => rfl
    | cons y m => simp at h2
  | cons x l ih =>
    cases m with
    | nil => simp at h2
    | cons y m =>
      simp only [List.map_cons, List.cons.injEq] at h2
      have hx := hl x (by simp)
      have hy := hm y (by simp)
      have e : x = y := by
        have := congrArg UInt8.toNat h2.1
        simp only [UInt8.toNat_ofNat'] at this
        omega
      rw [e, ih (fun u hu => hl u (by simp [hu])) (fun u hu => hm u (by simp [hu])) h2.2]
theorem toList_inj {A B : ByteArray} (h : A.toList = B.toList) : A = B := by
  rw [ByteArray.toList_eq, ByteArray.toList_eq] at h
  exact ByteArray.ext (Array.toList_inj.1 h)
theorem bts_mem (s : ByteArray) (a : Nat) : ∀ x ∈ bts s a, 0 ≤ x ∧ x < 256 := by
  intro x hx
  simp only [bts, List.mem_map] at hx
  obtain ⟨c, _, rfl⟩ := hx
  have := c.toNat_lt
  omega
end Go.Proofs.YtapffbbmofhpoaaDoor.L1

namespace Go.Proofs.YtapffbbmofhpoaaDoor.L1
open Go.RowKit
set_option linter.unusedVariables false

theorem grown_then_below {a b c : World} {r : Option Nat} (h : a.grownBy b r) (k : Below a.heap.size b c) : a.grownBy c r :=
  ⟨k.os.trans h.os, k.tape.trans h.tape, k.output.trans h.output, Nat.le_trans h.size k.size, fun i hi hn => (k.block i hi).trans (h.block i hi hn)⟩
theorem Cur.keptBelow {w w' : World} {b N B : Nat} (h : Cur w b N) (hb : Below B w w') (hB : b < B) : Cur w' b N := h.kept fun k hk => hb.block k (by omega)
theorem own_grown {w w' : World} {base n b : Nat} {v : Value} {ys : List Value} (h : w.ownsRow base 3 1 v n ys) (hg : w.grownBy w' (some b)) (hb : b < base) : w'.ownsRow base 3 1 v n ys := by
  refine h.kept hg ?_
  cases hv : v.ownBlock with
  | none => exact .inl rfl
  | some g => exact .inr (by have := (h.lt g hv).1; simp; omega)

/-- All numbers are in the range of what is drawn. -/
def Drawn (xs : List Int) : Prop := ∀ x ∈ xs, -2000000000000 ≤ x ∧ x ≤ 2000000000000

set_option maxRecDepth 100000 in
set_option maxHeartbeats 1000000 in
theorem values_any (b N : Nat) (m : Nat) (w : World) (h : Cur w b N) (hN : N ≤ 10000000) (hm : m ≤ 8) :
    Calls Tryd.prog 83 #[.pointer (some ⟨b, 0, none⟩), .int .i64 (m : Int)] w fun e w' => ∃ (v : Value), e = .returned v ∧ ∃ (xs : List Int), xs.length ≤ m ∧ Drawn xs ∧ w'.ownsRow w.heap.size 3 1 v xs.length (xs.map (Value.int .i64)) ∧ Cur w' b (N + 60) ∧ w.grownBy w' (some b) := by
  have HC := hide h
  have hbw := h.lt
  obtain ⟨i0, hi, hz0, hz1, hz2⟩ := info_parts info_int
  clear h
  go_enter Tryd.func83, Tryd.ntmps83
  go_wp2_with fail
  refine (pick_any b N _ _ HC.out (by omega) (by omega) (by omega)).mono ?_
  rintro e w1 ⟨x, rfl, hx0, hx1, hx2, hc1, hg1⟩
  have hx3 : x < (m : Int) + 1 := hx2 (by omega)
  obtain ⟨k0, rfl⟩ : ∃ k : Nat, x = (k : Int) := ⟨x.toNat, by omega⟩
  have hk0 : k0 ≤ m := by omega
  have H1 := hide hc1
  have G1 := hide hg1
  clear hc1 hg1 hx2
  go_wp2
  go_loopw [5, 6] (fun o i wr => ∃ (k : Nat) (xs : List Int), k + xs.length ≤ m ∧ i = .int .i64 (k : Int) ∧ Hid (Drawn xs) ∧ wr.ownsRow w.heap.size 3 1 o xs.length (xs.map (Value.int .i64)) ∧ Hid (Cur wr b (N + 2 + 6 * xs.length)) ∧ w.grownBy wr (some b)) (fun _ i _ => (intOf i).toNat)
  case atStart => exact ⟨k0, [], by simpa using hk0, rfl, fun x hx => by simp at hx, World.ownsRow_nil _ _ _ _, H1.out, G1.out⟩
  case round =>
    obtain ⟨k, xs, hk, rfl, HD, hown, HCr, hgr⟩ := hrel
    by_cases hlt : 0 < k
    · have hltI : (0 : Int) < (k : Int) := by omega
      have hxl : xs.length ≤ 8 := by omega
      go_wp2_with fail
      refine (value_any b (N + 2 + 6 * xs.length) _ HCr.out (by omega)).mono ?_
      rintro e w2 ⟨y, rfl, hy0, hy1, hc2, hg2⟩
      have hown2 := own_grown hown hg2 hbw
      have hgr2 := grown_trans hgr hg2
      have hsz : w.heap.size ≤ w2.heap.size := hgr2.size
      have H2 := hide hc2
      have G2 := hide hgr2
      clear hc2 hg2 hown hgr hgr2
      go_wp2_with (first
        | (at_builtin; refine wpList_append_own _ rfl _ _ 32 rfl w.heap.size 3 i0 (.int .i64 0) 1 8 Tryd.underlying32 hi hz0 hz1 hz2 rfl (by decide) _ _ _ rfl (hown2.alloc _) ⟨w2.heap.size, 0, none⟩ 1 1 [.int .i64 y] rfl rfl (cell_one_new _ _ _) (by intro u hu; simp at hu; subst hu; rfl) (by unfold maxLen; omega) (by omega) (by simp; omega) ?_)
        | go_in)
      intro v' w3 hown' hgrow _
      have hb3 : Below w.heap.size w2 w3 := ((Below.refl _ _).alloc hsz _).grown hgrow (by simp; omega) (fun k hk => (hown2.lt k hk).1)
      have hown3 : w3.ownsRow w.heap.size 3 1 v' (xs ++ [y]).length ((xs ++ [y]).map (Value.int .i64)) := by simpa using hown'
      have C3 := hide (H2.out.keptBelow hb3 hbw)
      have G3 := hide (grown_then_below G2.out hb3)
      have D3 : Hid (Drawn (xs ++ [y])) := fun u hu => by
        simp only [List.mem_append, List.mem_singleton] at hu
        rcases hu with hu | hu
        · exact HD.out u hu
        · subst hu; exact ⟨hy0, hy1⟩
      clear hown' hgrow hown2 hb3
      go_wp2
      go_roundw
      case rel => exact ⟨k - 1, xs ++ [y], by simp; omega, by go_num, D3, hown3, C3.out.mono (by simp; omega), G3.out⟩
      case measure => simp [intOf]; omega
    · have hltI : ¬ (0 : Int) < (k : Int) := by omega
      go_wp2
      go_ret
      exact ⟨_, rfl, xs, by omega, HD.out, hown, HCr.out.mono (by omega), hgr⟩

theorem one_conv (w : World) (x : Int) :
    (convert 22 9 (.slice (some ⟨w.heap.size, 0, none⟩) 1 1)).run Tryd.prog (w.alloc (.cells #[.int .u8 x] 5)) = .ok (.string (strOfNums [x])) (w.alloc (.cells #[.int .u8 x] 5)) :=
  run_convert_bytes_arg _ 22 5 Tryd.underlying22 Tryd.underlying5 w.heap.size 0 1 1 [x] rfl (fun i hi => by
    obtain rfl : i = 0 := by omega
    simp) 9 Tryd.underlying9

set_option maxRecDepth 100000 in
set_option maxHeartbeats 1000000 in
theorem spoilt_any (b N : Nat) (t wi : ByteArray) (w : World) (h : Cur w b N) (hN : N ≤ 10000000) (ht : t.size ≤ 100000) (hw1 : 1 ≤ wi.size) (hw2 : wi.size ≤ 100) :
    Calls Tryd.prog 94 #[.pointer (some ⟨b, 0, none⟩), .string t, .string wi] w fun e w' => ∃ (u : ByteArray), e = .returned (.string u) ∧ u.size ≤ t.size + 2 ∧ Cur w' b (N + 14) ∧ w.grownBy w' (some b) := by
  have HC := hide h
  clear h
  go_enter Tryd.func94, Tryd.ntmps94
  go_wp2_with fail
  refine (pick_any b N _ _ HC.out (by omega) (by omega) (by omega)).mono ?_
  rintro e w1 ⟨x, rfl, hx0, hx1, hx2, hc1, hg1⟩
  have hx3 : x < 3 := hx2 (by omega)
  obtain ⟨k0, rfl⟩ : ∃ k : Nat, x = (k : Int) := ⟨x.toNat, by omega⟩
  have hk0 : k0 ≤ 2 := by omega
  have H1 := hide hc1
  have G1 := hide hg1
  clear hc1 hg1 hx2
  go_wp2
  go_loopw [1, 7] (fun o i wr => ∃ (k : Nat) (u : ByteArray), k ≤ 2 ∧ u.size + k ≤ t.size + 2 ∧ i = .int .i64 (k : Int) ∧ o = .string u ∧ Hid (Cur wr b (N + 14 - 6 * k)) ∧ Hid (w.grownBy wr (some b))) (fun _ i _ => (intOf i).toNat)
  case atStart => exact ⟨k0, t, hk0, by omega, rfl, rfl, H1.out.mono (by omega), G1.out⟩
  case round =>
    obtain ⟨k, u, hk, hu, rfl, rfl, HCr, HGr⟩ := hrel
    by_cases hlt : 0 < k
    · have hltI : (0 : Int) < (k : Int) := by omega
      by_cases hu0 : 0 < u.size
      · have huI : (0 : Int) < (u.size : Int) := by omega
        go_wp2_with fail
        refine (pick_any b (N + 14 - 6 * k) _ _ HCr.out (by omega) (by omega) (by omega)).mono ?_
        rintro e w2 ⟨i, rfl, hi0, hi1, hi2, hc2, hg2⟩
        have hi3 : i < (u.size : Int) := hi2 (by omega)
        obtain ⟨j, rfl⟩ : ∃ j : Nat, i = (j : Int) := ⟨i.toNat, by omega⟩
        have hj : j < u.size := by omega
        have H2 := hide hc2
        have G2 := hide (grown_trans HGr.out hg2)
        clear hc2 hg2 hi2 HCr HGr
        go_wp2_with fail
        refine (pick_any b (N + 14 - 6 * k + 2) _ _ H2.out (by omega) (by omega) (by omega)).mono ?_
        rintro e w3 ⟨i2, rfl, hp0, hp1, hp2, hc3, hg3⟩
        have hp3 : i2 < (wi.size : Int) := hp2 (by omega)
        obtain ⟨q, rfl⟩ : ∃ q : Nat, i2 = (q : Int) := ⟨i2.toNat, by omega⟩
        have hq : q < wi.size := by omega
        have H3 := hide hc3
        have G3 := hide (grown_trans G2.out hg3)
        have hcv := one_conv w3 ((wi[q]'hq).toNat : Int)
        have hWs : (strOfNums [((wi[q]'hq).toNat : Int)]).size = 1 := by rw [strOfNums_size]; rfl
        obtain ⟨Wd, hWd⟩ : ∃ Wd, Wd = strOfNums [((wi[q]'hq).toNat : Int)] := ⟨_, rfl⟩
        rw [← hWd] at hcv hWs
        have hWs2 : Wd.size ≤ 1 := by omega
        have hus : u.size ≤ 100002 := by omega
        have C3 := hide (H3.out.alloc (Obj.cells #[Value.int .u8 ((wi[q]'hq).toNat : Int)] 5))
        have D3 := hide (grown_trans G3.out (grown_alloc w3 (Obj.cells #[Value.int .u8 ((wi[q]'hq).toNat : Int)] 5) b))
        clear hc3 hg3 hp2 H2 G2 H3 G3 hWd hWs
        go_wp2_with fail
        refine (pick_any b (N + 14 - 6 * k + 4) _ _ C3.out (by omega) (by omega) (by omega)).mono ?_
        rintro e w4 ⟨z, rfl, hz0, hz1, hz2, hc4, hg4⟩
        have hz3 : z < 3 := hz2 (by omega)
        have H4 := hide hc4
        have G4 := hide (grown_trans D3.out hg4)
        have hj0I : (0 : Int) ≤ (j : Int) := by omega
        have hj1I : (j : Int) ≤ (u.size : Int) := by omega
        have hj2I : (j : Int) + 1 ≤ (u.size : Int) := by omega
        have hs1 := @ByteArray.size_extract u 0 j
        have hs2 := @ByteArray.size_extract u j u.size
        have hs3 := @ByteArray.size_extract u (j + 1) u.size
        have hb1 : (u.extract 0 j).size ≤ 100002 := by omega
        have hb2 : (u.extract j u.size).size ≤ 100002 := by omega
        have hb3 : (u.extract (j + 1) u.size).size ≤ 100002 := by omega
        have hz : z = 0 ∨ z = 1 ∨ z = 2 := by omega
        have HS := hide (And.intro hs1 (And.intro hs2 hs3))
        clear hc4 hg4 hz2 C3 D3 hs1 hs2 hs3 hcv
        rcases hz with rfl | rfl | rfl
        · go_wp2
          go_quiet (fail)
          go_wp2
          go_roundw
          case rel =>
            refine ⟨k - 1, _, by omega, ?_, by go_num, rfl, (H4.out.kept (fun _ _ => rfl)).mono (by omega), grown_trans G4.out ⟨rfl, rfl, rfl, Nat.le_refl _, fun _ _ _ => rfl⟩⟩
            have := HS.out
            simp only [ByteArray.size_append]
            omega
          case measure => simp [intOf]; omega
        · go_wp2
          go_quiet (fail)
          go_wp2
          go_roundw
          case rel =>
            refine ⟨k - 1, _, by omega, ?_, by go_num, rfl, (H4.out.kept (fun _ _ => rfl)).mono (by omega), grown_trans G4.out ⟨rfl, rfl, rfl, Nat.le_refl _, fun _ _ _ => rfl⟩⟩
            have := HS.out
            simp only [ByteArray.size_append]
            omega
          case measure => simp [intOf]; omega
        · go_wp2
          go_quiet (fail)
          go_wp2
          go_roundw
          case rel =>
            refine ⟨k - 1, _, by omega, ?_, by go_num, rfl, (H4.out.kept (fun _ _ => rfl)).mono (by omega), grown_trans G4.out ⟨rfl, rfl, rfl, Nat.le_refl _, fun _ _ _ => rfl⟩⟩
            have := HS.out
            simp only [ByteArray.size_append]
            omega
          case measure => simp [intOf]; omega
      · have huI : ¬ (0 : Int) < (u.size : Int) := by omega
        go_wp2
        go_ret
        exact ⟨_, rfl, by omega, HCr.out.mono (by omega), HGr.out⟩
    · have hltI : ¬ (0 : Int) < (k : Int) := by omega
      go_wp2
      go_ret
      exact ⟨_, rfl, by omega, HCr.out.mono (by omega), HGr.out⟩
end Go.Proofs.YtapffbbmofhpoaaDoor.L1

namespace Go.Proofs.YtapffbbmofhpoaaDoor.L1
open Go.RowKit
set_option linter.unusedVariables false

theorem info_u8 : (Tryd.prog.info? 5).map (fun i => (i.zero, i.size, i.bytes)) = some (some (.int .u8 0), 1, 1) := by kernel_rfl

/-- A row of bytes that a call owns, as a text. -/
theorem conv_own {w : World} {base : Nat} {v : Value} {n : Nat} {l : List Int} (hown : w.ownsRow base 5 1 v n (l.map (Value.int .u8))) (hn : 0 < n) :
    (convert 22 9 v).run Tryd.prog w = .ok (.string (strOfNums l)) w := by
  have hlen := hown.1
  rcases hown.2 with ⟨_, h0⟩ | ⟨g, cap, cur, rfl, hb, hg, hle, hm, hs, ht⟩
  · omega
  · simp at hlen
    exact run_convert_bytes_arg w 22 5 Tryd.underlying22 Tryd.underlying5 g 0 n cap l hlen (fun i hi => by
      have := hown.cells (g := g) rfl i (.int .u8 (l.getD i 0)) (by
        rw [List.getElem?_map, List.getElem?_eq_getElem (by omega)]
        simp [List.getD, List.getElem?_eq_getElem (show i < l.length by omega)])
      rw [addr_add] at this
      simpa using this) 9 Tryd.underlying9
end Go.Proofs.YtapffbbmofhpoaaDoor.L1

namespace Go.Proofs.YtapffbbmofhpoaaDoor.L1
open Go.RowKit
set_option linter.unusedVariables false

set_option maxRecDepth 100000 in
set_option maxHeartbeats 400000 in
theorem l1Zig_any (n : Int) (w : World) (h1 : -1000000000000 ≤ n) (h2 : n ≤ 1000000000000) :
    Calls Tryd.prog 78 #[.int .i64 n] w fun e w' => e = .returned (.int .i64 (zig n)) ∧ w = w' := by
  unfold zig
  by_cases h : n < 0
  · rw [if_pos h]
    go_enter Tryd.func78, Tryd.ntmps78
    go_wp2
    go_ret
    exact ⟨rfl, rfl⟩
  · rw [if_neg h]
    go_enter Tryd.func78, Tryd.ntmps78
    go_wp2
    go_ret
    exact ⟨rfl, rfl⟩

set_option maxRecDepth 100000 in
set_option maxHeartbeats 1000000 in
theorem l1Varint_any (n : Int) (w : World) (h1 : -1000000000000 ≤ n) (h2 : n ≤ 1000000000000) :
    Calls Tryd.prog 76 #[.int .i64 n] w fun e w' => e = .returned (.string (strOfNums (vd (zig n)))) ∧ Below w.heap.size w w' := by
  have z0 := zig_lo n
  have z1 := zig_hi n h1 h2
  obtain ⟨i0, hi, hz0, hz1, hz2⟩ := info_parts info_u8
  go_enter Tryd.func76, Tryd.ntmps76
  go_wp2_with (go_at_call 78; refine (l1Zig_any _ _ h1 h2).mono ?_; rintro e w' ⟨rfl, rfl⟩)
  obtain ⟨Z, hZ⟩ : ∃ Z, Z = zig n := ⟨_, rfl⟩
  rw [← hZ] at z0 z1 ⊢
  have HZ := hide hZ
  clear hZ h1 h2
  go_loopw [3, 4] (fun z b wr => ∃ (f : Nat) (pre : List Int) (zk : Int), f ≤ 5 ∧ Hid (vd Z = pre ++ vdf f zk) ∧ 0 ≤ zk ∧ zk < wor (f + 1) ∧ zk ≤ 2000000000000 ∧ pre.length = 5 - f ∧ z = .int .i64 zk ∧
      wr.ownsRow w.heap.size 5 1 b pre.length (pre.map (Value.int .u8)) ∧ Below w.heap.size w wr) (fun z _ _ => (intOf z).toNat)
  case atStart => exact ⟨5, [], Z, by omega, rfl, z0, by simp [wor]; omega, z1, rfl, rfl, World.ownsRow_nil _ _ _ _, Below.refl _ _⟩
  case round =>
    obtain ⟨f, pre, zk, hf, HV, hz0', hz1', hz2', hpl, rfl, hown, hbel⟩ := hrel
    have HP := hide hpl
    have HW := hide hz1'
    have hpl5 : pre.length ≤ 5 := by omega
    clear hpl hz1'
    by_cases hlt : zk < 128
    · go_wp2_with (first
        | (at_builtin; refine wpList_append_own _ rfl _ _ 22 rfl w.heap.size 5 i0 (.int .u8 0) 1 1 Tryd.underlying22 hi hz0 hz1 hz2 rfl (by decide) _ _ _ rfl (hown.alloc _) ⟨wr.heap.size, 0, none⟩ 1 1 [.int .u8 zk] rfl rfl (cell_one_new _ _ _) (by intro u hu; simp at hu; subst hu; rfl) (by unfold maxLen; omega) (by omega) (by have := hbel.size; simp; omega) ?_)
        | go_in)
      · intro v' w1 hown' hgrow _
        have e : vd (zig n) = pre ++ [zk] := by
          rw [← HZ.out, HV.out]
          congr 1
          cases f with
          | zero => rfl
          | succ f => simp only [vdf]; rw [if_pos hlt]
        have hcv := conv_own (l := pre ++ [zk]) (v := v') (w := w1) (base := w.heap.size) (n := pre.length + 1) (by simpa using hown') (by omega)
        have hb1 : Below w.heap.size w w1 := (hbel.alloc hbel.size _).grown hgrow (by have := hbel.size; simp; omega) (fun k hk => (hown.lt k hk).1)
        have E := hide e
        clear e hown' hgrow hown
        go_wp2
        go_ret
        exact ⟨by rw [E.out]; rfl, hb1⟩
    · go_wp2_with (first
        | (at_builtin; refine wpList_append_own _ rfl _ _ 22 rfl w.heap.size 5 i0 (.int .u8 0) 1 1 Tryd.underlying22 hi hz0 hz1 hz2 rfl (by decide) _ _ _ rfl (hown.alloc _) ⟨wr.heap.size, 0, none⟩ 1 1 [.int .u8 (128 + zk % 128)] rfl rfl (cell_one_new _ _ _) (by intro u hu; simp at hu; subst hu; rfl) (by unfold maxLen; omega) (by omega) (by have := hbel.size; simp; omega) ?_)
        | go_in)
      · intro v' w1 hown' hgrow _
        have hb1 : Below w.heap.size w w1 := (hbel.alloc hbel.size _).grown hgrow (by have := hbel.size; simp; omega) (fun k hk => (hown.lt k hk).1)
        have hown2 : w1.ownsRow w.heap.size 5 1 v' (pre ++ [128 + zk % 128]).length ((pre ++ [128 + zk % 128]).map (Value.int .u8)) := by simpa using hown'
        obtain ⟨g, rfl⟩ : ∃ g, f = g + 1 := by
          cases f with
          | zero => have := HW.out; simp [wor] at this; omega
          | succ g => exact ⟨g, rfl⟩
        clear hown' hgrow hown
        go_wp2
        go_roundw
        case rel =>
          refine ⟨g, pre ++ [128 + zk % 128], zk / 128, by omega, ?_, by omega, ?_, by omega, ?_, rfl, hown2, hb1⟩
          · show vd Z = _
            rw [HV.out]
            simp only [vdf]
            rw [if_neg (by omega)]
            simp
          · have := HW.out
            have hw : wor (g + 1 + 1) = 128 * wor (g + 1) := rfl
            omega
          · have := HP.out
            simp
            omega
        case measure => simp [intOf]; omega
end Go.Proofs.YtapffbbmofhpoaaDoor.L1

namespace Go.Proofs.YtapffbbmofhpoaaDoor.L1
open Go.RowKit
set_option linter.unusedVariables false

set_option maxRecDepth 100000 in
set_option maxHeartbeats 1000000 in
theorem bytesOf_any (b N : Nat) (w : World) (h : Cur w b N) (hN : N ≤ 1000000) :
    Calls Tryd.prog 79 #[.pointer (some ⟨b, 0, none⟩)] w fun e w' => ∃ (u : ByteArray), e = .returned (.string u) ∧ u.size ≤ 40 ∧ Cur w' b (N + 80) ∧ w.grownBy w' (some b) := by
  have HC := hide h
  have hbw := h.lt
  clear h
  go_enter Tryd.func79, Tryd.ntmps79
  go_wp2_with fail
  refine (values_any b N 6 _ HC.out (by omega) (by omega)).mono ?_
  rintro e w1 ⟨v, rfl, xs, hxl, hxd, ho, hc1, hg1⟩
  obtain ⟨a, cap, rfl, hsl, hxn⟩ := own_form ho
  obtain ⟨n, hn⟩ : ∃ n, n = xs.length := ⟨_, rfl⟩
  rw [← hn] at hxl ⊢
  have HN := hide hn
  have HS := hide hsl
  have H1 := hide hc1
  have G1 := hide hg1
  have HD := hide hxd
  clear ho hsl hc1 hg1 hxd hxn hn
  go_wp2
  go_loopw [3, 9] (fun o i wr => ∃ (k : Nat) (S : ByteArray), k ≤ n ∧ S.size ≤ 6 * k ∧ i = .int .i64 (k : Int) ∧ o = .string S ∧ Below w1.heap.size w1 wr) (fun _ i _ => n - (intOf i).toNat)
  case atStart => exact ⟨0, ⟨#[]⟩, by omega, by decide, rfl, rfl, Below.refl _ _⟩
  case round =>
    obtain ⟨k, S, hk, hSs, rfl, rfl, hbel⟩ := hrel
    by_cases hlt : k < n
    · obtain ⟨bb, off, rfl, hc0⟩ := HS.out k (by rw [← HN.out]; exact hlt)
      have hc : wr.cell? ⟨bb, off + k, none⟩ = some (.int .i64 (xs.getD k 0)) := by
        rw [hbel.cell (p := ⟨bb, off + k, none⟩) (blk_lt hc0)]
        exact hc0
      have hvc := l1Varint_any (xs.getD k 0) wr
      have hl2 : (strOfNums (vd (zig (xs.getD k 0)))).size ≤ 6 := by rw [strOfNums_size]; exact vdf_le 5 _
      obtain ⟨x, hx⟩ : ∃ x, x = xs.getD k 0 := ⟨_, rfl⟩
      rw [← hx] at hc hvc hl2
      obtain ⟨C, hC⟩ : ∃ C, C = strOfNums (vd (zig x)) := ⟨_, rfl⟩
      rw [← hC] at hvc hl2
      have hltI : (k : Int) < (n : Int) := by omega
      have HV := hide hvc
      have hsum : ¬ 9223372036854775807 < S.size + C.size := by omega
      clear hc0 hvc hx hC
      by_cases h1 : -1000000000000 ≤ x
      · by_cases h2 : x ≤ 1000000000000
        · go_wp2_with (first | (go_at_call 76; refine (unhide HV h1 h2).mono ?_; rintro e w2 ⟨rfl, hb2⟩) | go_in)
          go_roundw
          case rel => exact ⟨k + 1, _, by omega, by simp only [ByteArray.size_append]; omega, by go_num, rfl, hbel.trans (Below.mono (by assumption) hbel.size)⟩
          case measure => simp [intOf]; omega
        · go_wp2_with (first | (go_at_call 76; fail) | go_in)
          go_roundw
          case rel => exact ⟨k + 1, S, by omega, by omega, by go_num, rfl, hbel⟩
          case measure => simp [intOf]; omega
      · go_wp2_with (first | (go_at_call 76; fail) | go_in)
        go_roundw
        case rel => exact ⟨k + 1, S, by omega, by omega, by go_num, rfl, hbel⟩
        case measure => simp [intOf]; omega
    · have hltI : ¬ (k : Int) < (n : Int) := by omega
      have HCr := hide (H1.out.below hbel)
      have HGr := hide (grown_then_below G1.out (hbel.mono G1.out.size))
      have hS36 : S.size ≤ 36 := by omega
      go_wp2_with fail
      refine (one_any b (N + 60) _ _ HCr.out (by omega) (by omega) (by omega)).mono ?_
      rintro e w2 ⟨t, rfl, hc2, hg2⟩
      have H2 := hide hc2
      have G2 := hide (grown_trans HGr.out hg2)
      clear hc2 hg2
      cases t with
      | false =>
        go_wp2
        go_ret
        exact ⟨S, rfl, by omega, H2.out.mono (by omega), G2.out⟩
      | true =>
        go_wp2_with fail
        refine (spoilt_any b (N + 62) S _ _ H2.out (by omega) (by omega) (by decide) (by decide)).mono ?_
        rintro e w3 ⟨u, rfl, hus, hc3, hg3⟩
        have H3 := hide hc3
        have G3 := hide (grown_trans G2.out hg3)
        clear hc3 hg3
        go_wp2
        go_ret
        exact ⟨u, rfl, by omega, H3.out.mono (by omega), G3.out⟩

theorem cur_new {w : World} {a : Option Addr} {n cap : Nat} (h : Slb w w.heap.size a n) (hn : n ≤ 1048576) : Cur (w.alloc (Obj.cells #[.slice a n cap, .int .i64 0, .int .u64 0] 79)) w.heap.size 0 := by
  refine ⟨a, n, cap, 0, 0, by show (w.heap.push _)[w.heap.size]? = _; simp, Nat.le_refl _, hn, fun i hi => ?_⟩
  obtain ⟨bb, off, x, ha, hlt, hc, hx⟩ := h i hi
  exact ⟨bb, off, x, ha, hlt, by rw [World.cell?_of_block (w := w) (Below.heap_alloc _ _ _ hlt)]; exact hc, hx⟩
theorem grown_to_below {w w' : World} {o : Obj} (h : (w.alloc o).grownBy w' (some w.heap.size)) : Below w.heap.size w w' := by
  have h1 : Below w.heap.size (w.alloc o) w' := ⟨h.os, h.tape, h.output, h.size, fun k hk => h.block k (by simp; omega) (by simp; omega)⟩
  exact ((Below.refl _ _).alloc (Nat.le_refl _) _).trans h1
theorem Slb.below {w w' : World} {a : Option Addr} {n : Nat} (h : Slb w w.heap.size a n) (hb : Below w.heap.size w w') : Slb w' w'.heap.size a n := fun i hi => by
  obtain ⟨bb, off, x, ha, hlt, hc, hx⟩ := h i hi
  exact ⟨bb, off, x, ha, by have := hb.size; omega, by rw [hb.cell (p := ⟨bb, off + i, none⟩) hlt]; exact hc, hx⟩
theorem sl_len {w : World} {k : IntKind} {a : Option Addr} {len cap : Nat} {zs : List Int} (h : IsRow k w a len cap zs) : len ≤ 9223372036854775807 := by
  rcases h with ⟨_, rfl, _⟩ | ⟨x, _, hl, hm, _⟩
  · omega
  · unfold maxLen at hm; omega
theorem slb_of_row {w : World} {a : Option Addr} {len cap : Nat} {zs : List Int} (h : IsRow .u8 w a len cap zs) : Slb w w.heap.size a len := by
  rcases h with ⟨rfl, rfl, rfl, rfl⟩ | ⟨x, rfl, hl, hm, hz, hc, hwf⟩
  · exact fun i hi => absurd hi (Nat.not_lt_zero _)
  · intro i hi
    have hi' : i < zs.length := by omega
    have h0 := hc i hi'
    obtain ⟨b, off, spot⟩ := x
    have hspot : spot = none := by
      have h00 := hc 0 (by omega)
      simpa [Addr.add] using World.cell?_spot h00
    subst hspot
    have e : (⟨b, off, none⟩ : Addr).add i = ⟨b, off + i, none⟩ := by unfold Addr.add; split <;> simp_all
    rw [e] at h0
    have hw := hwf (zs.getD i 0) (by rw [List.getD, List.getElem?_eq_getElem hi']; simp)
    have hb := bounds_u8 hw
    exact ⟨b, off, zs.getD i 0, rfl, blk_lt h0, h0, by omega, by omega⟩

set_option maxRecDepth 100000 in
set_option maxHeartbeats 400000 in
theorem drawZigZag_any (a : Option Addr) (n cap : Nat) (w : World) (h : Slb w w.heap.size a n) (hn : n ≤ 1048576) :
    Calls Tryd.prog 73 #[.slice a n cap] w fun e w' => ∃ x : Int, e = .returned (.int .i64 x) ∧ -2000000000000 ≤ x ∧ x ≤ 2000000000000 ∧ Below w.heap.size w w' := by
  have HC := hide (cur_new (cap := cap) h hn)
  clear h
  go_enter Tryd.func73, Tryd.ntmps73
  go_wp2_with fail
  refine (value_any _ 0 _ HC.out (by omega)).mono ?_
  rintro e w1 ⟨x, rfl, hx0, hx1, _, hg1⟩
  have B1 := hide (grown_to_below hg1)
  clear hg1
  go_wp2
  go_ret
  exact ⟨x, rfl, hx0, hx1, B1.out⟩
set_option maxRecDepth 100000 in
set_option maxHeartbeats 400000 in
theorem drawPutVarint_any (a : Option Addr) (n cap : Nat) (w : World) (h : Slb w w.heap.size a n) (hn : n ≤ 1048576) :
    Calls Tryd.prog 8 #[.slice a n cap] w fun e w' => ∃ x : Int, e = .returned (.int .i64 x) ∧ -2000000000000 ≤ x ∧ x ≤ 2000000000000 ∧ Below w.heap.size w w' := by
  have HC := hide (drawZigZag_any a n cap w h hn)
  clear h
  go_enter Tryd.func8, Tryd.ntmps8
  go_wp2_with fail
  refine (unhide HC).mono ?_
  rintro e w1 ⟨x, rfl, hx0, hx1, hb⟩
  go_wp2
  go_ret
  exact ⟨x, rfl, hx0, hx1, hb⟩
set_option maxRecDepth 100000 in
set_option maxHeartbeats 400000 in
theorem drawGetAll_any (a : Option Addr) (n cap : Nat) (w : World) (h : Slb w w.heap.size a n) (hn : n ≤ 1048576) :
    Calls Tryd.prog 22 #[.slice a n cap] w fun e w' => ∃ u : ByteArray, e = .returned (.string u) ∧ u.size ≤ 40 ∧ Below w.heap.size w w' := by
  have HC := hide (cur_new (cap := cap) h hn)
  clear h
  go_enter Tryd.func22, Tryd.ntmps22
  go_wp2_with fail
  refine (bytesOf_any _ 0 _ HC.out (by omega)).mono ?_
  rintro e w1 ⟨u, rfl, hu, _, hg1⟩
  have B1 := hide (grown_to_below hg1)
  clear hg1
  go_wp2
  go_ret
  exact ⟨u, rfl, hu, B1.out⟩
set_option maxRecDepth 100000 in
set_option maxHeartbeats 400000 in
theorem drawGetVarint_any (a : Option Addr) (n cap : Nat) (w : World) (h : Slb w w.heap.size a n) (hn : n ≤ 1048576) :
    Calls Tryd.prog 17 #[.slice a n cap] w fun e w' => ∃ (u : ByteArray) (x : Int), e = .returned (.tuple #[.string u, .int .i64 x]) ∧ u.size ≤ 40 ∧ -1 ≤ x ∧ x ≤ 65535 ∧ Below w.heap.size w w' := by
  have HC := hide (cur_new (cap := cap) h hn)
  clear h
  go_enter Tryd.func17, Tryd.ntmps17
  go_wp2_with fail
  refine (bytesOf_any _ 0 _ HC.out (by omega)).mono ?_
  rintro e w1 ⟨u, rfl, hu, hc1, hg1⟩
  have H1 := hide hc1
  have G1 := hide hg1
  clear hc1 hg1
  go_wp2_with fail
  refine (pick_any _ _ _ _ H1.out (by omega) (by omega) (by omega)).mono ?_
  rintro e w2 ⟨x, rfl, hx0, hx1, _, _, hg2⟩
  have B2 := hide (grown_to_below (grown_trans G1.out hg2))
  clear hg2
  go_wp2
  go_ret2
  exact ⟨u, x - 1, rfl, hu, by omega, by omega, B2.out⟩
set_option maxRecDepth 100000 in
set_option maxHeartbeats 1000000 in
theorem drawPutAll_any (a : Option Addr) (n cap : Nat) (w : World) (h : Slb w w.heap.size a n) (hn : n ≤ 1048576) :
    Calls Tryd.prog 19 #[.slice a n cap] w fun e w' => ∃ (v : Value), e = .returned v ∧ ∃ (xs : List Int), xs.length ≤ 61 ∧ w'.ownsRow w.heap.size 3 1 v xs.length (xs.map (Value.int .i64)) ∧ Below w.heap.size w w' := by
  have HC := hide (cur_new (cap := cap) h hn)
  obtain ⟨i0, hi, hz0, hz1, hz2⟩ := info_parts info_int
  clear h
  go_enter Tryd.func19, Tryd.ntmps19
  go_wp2_with fail
  refine (one_any _ 0 _ _ HC.out (by omega) (by omega) (by omega)).mono ?_
  rintro e w1 ⟨t, rfl, hc1, hg1⟩
  have H1 := hide hc1
  have G1 := hide hg1
  clear hc1 hg1
  cases t with
  | true =>
    go_wp2_with fail
    refine (pick_any _ _ _ _ H1.out (by omega) (by omega) (by omega)).mono ?_
    rintro e w2 ⟨x, rfl, hx0, hx1, hx2, _, hg2⟩
    have hx3 : x < 3 := hx2 (by omega)
    obtain ⟨k, rfl⟩ : ∃ k : Nat, x = (k : Int) := ⟨x.toNat, by omega⟩
    have B2 := hide (grown_to_below (grown_trans G1.out hg2))
    have hB : w.heap.size ≤ w2.heap.size := B2.out.size
    obtain ⟨w3, hmk, hown3, hg3⟩ := run_make_full (P := Tryd.prog) w2 w.heap.size 32 3 i0 (.int .i64 0) 1 Tryd.underlying32 hi hz0 hz1 .i64 .i64 (59 + k) (by rw [hz2]; omega) (by unfold maxLen; omega) hB
    rw [made_ints] at hown3
    have hmk' : (Instr.makeSlice 32 (.int .i64 (59 + (k : Int))) (.int .i64 (59 + (k : Int)))).run Tryd.prog w2 = .ok (.slice (some ⟨w2.heap.size, 0, none⟩) (59 + k) (59 + k)) w3 := by
      have e : ((59 + k : Nat) : Int) = 59 + (k : Int) := by omega
      rw [e] at hmk
      exact hmk
    have O3 := hide hown3
    have B3 := hide (B2.out.grown hg3 hB (fun k hk => by cases hk))
    clear hg2 hx2 hmk hown3 hg3
    go_wp2
    go_ret
    exact ⟨_, rfl, List.replicate (59 + k) 0, by simp; omega, by simpa using O3.out, B3.out⟩
  | false =>
    go_wp2_with fail
    refine (values_any _ _ 8 _ H1.out (by omega) (by omega)).mono ?_
    rintro e w2 ⟨v, rfl, xs, hxl, _, ho, _, hg2⟩
    have B2 := hide (grown_to_below (grown_trans G1.out hg2))
    have O2 : Hid (w2.ownsRow w.heap.size 3 1 v xs.length (xs.map (Value.int .i64))) := by
      refine ⟨ho.1, ?_⟩
      rcases ho.2 with h0 | ⟨g, cap, cur, hv, hb, r⟩
      · exact .inl h0
      · exact .inr ⟨g, cap, cur, hv, by have := G1.out.size; simp at this; omega, r⟩
    clear hg2 ho
    go_wp2
    go_ret
    exact ⟨_, rfl, xs, by omega, O2.out, B2.out⟩
end Go.Proofs.YtapffbbmofhpoaaDoor.L1

namespace Go.Proofs.YtapffbbmofhpoaaDoor.L1
open Go.RowKit
set_option linter.unusedVariables false

/-- Two rows of ints that a call owns, in two blocks. -/
def Two (B : Nat) (w : World) (ot ov : Value) (k : Nat) (ts vs : List Int) : Prop :=
  w.ownsRow B 3 1 ot k (ts.map (Value.int .i64)) ∧ w.ownsRow B 3 1 ov k (vs.map (Value.int .i64)) ∧ ∀ g, ot.ownBlock = some g → ov.ownBlock ≠ some g
theorem two_nil (B : Nat) (w : World) : Two B w (.slice none 0 0) (.slice none 0 0) 0 [] [] := ⟨World.ownsRow_nil _ _ _ _, World.ownsRow_nil _ _ _ _, fun g h => by simp [Value.ownBlock] at h⟩
theorem Two.form {B k : Nat} {w : World} {ot ov : Value} {ts vs : List Int} (h : Two B w ot ov k ts vs) : ∃ a c b d, ot = .slice a k c ∧ ov = .slice b k d ∧ Sl w a ts ∧ Sl w b vs := by
  obtain ⟨a, c, e1, s1, _⟩ := own_form h.1
  obtain ⟨b, d, e2, s2, _⟩ := own_form h.2.1
  exact ⟨a, c, b, d, e1, e2, s1, s2⟩
theorem ownsRow_succ' {W : World} {base : Nat} {e : TypeId} {size : Nat} {v : Value} {k : Nat} {xs : List Value} (h : W.ownsRow base e size v (k + 1) xs) : ∃ g cap, v = .slice (some ⟨g, 0, none⟩) (k + 1) cap := by
  rcases h.2 with ⟨_, h0⟩ | ⟨g, cap, cur, hv, _⟩
  · omega
  · exact ⟨g, cap, hv⟩
theorem below_app {w w' : World} {o : Obj} {row : Option Nat} {B : Nat} (hB : B ≤ w.heap.size) (hg : (w.alloc o).grownBy w' row) (hr : ∀ g, row = some g → B ≤ g) : Below B w w' :=
  ((Below.refl B w).alloc hB o).grown hg (by simp; omega) hr
/-- Behind the first append of a round. -/
theorem two_first {B k : Nat} {wr w3 : World} {ot ov v3 : Value} {ts vs : List Int} {x : Int} {T1 T2 : TypeId} {p q y : Value} (h : Two B wr ot ov k ts vs)
    (hg : ((wr.alloc (.cells #[p, y] T1)).alloc (.cells #[q] T2)).grownBy w3 ot.ownBlock) (hown : w3.ownsRow B 3 1 v3 (k + 1) (ts.map (Value.int .i64) ++ [.int .i64 x]))
    (hblk : v3.ownBlock = ot.ownBlock ∨ v3.ownBlock = some (wr.heap.size + 1 + 1)) (hB : B ≤ wr.heap.size := by omega) :
    w3.cell? ⟨wr.heap.size, 1, none⟩ = some y ∧ Below B wr w3 ∧ Hid (w3.ownsRow B 3 1 v3 (k + 1) ((ts ++ [x]).map (Value.int .i64)) ∧ w3.ownsRow B 3 1 ov k (vs.map (Value.int .i64)) ∧ ∀ g, v3.ownBlock = some g → ov.ownBlock ≠ some g) := by
  refine ⟨?_, ?_, by simpa using hown, ?_, ?_⟩
  · refine hg.cell (a := ⟨wr.heap.size, 1, none⟩) (by simp) (fun e => ?_)
    have := (h.1.lt wr.heap.size e.symm).2
    omega
  · exact (((Below.refl B wr).alloc hB _).alloc (by simp; omega) _).grown hg (by simp; omega) (fun g e => (h.1.lt g e).1)
  · refine ((h.2.1.alloc _).alloc _).kept hg ?_
    cases hov : ov.ownBlock with
    | none => exact .inl rfl
    | some g => exact .inr (fun e => h.2.2 g e.symm hov)
  · intro g e1 e2
    rcases hblk with hb | hb
    · exact h.2.2 g (hb ▸ e1) e2
    · rw [hb] at e1
      cases e1
      have := (h.2.1.lt _ e2).2
      omega
/-- Behind the second. -/
theorem two_second {B k : Nat} {w3 w4 : World} {v3 ov v4 : Value} {ts vs : List Int} {y : Int} {o : Obj} (h : w3.ownsRow B 3 1 v3 (k + 1) (ts.map (Value.int .i64)) ∧ w3.ownsRow B 3 1 ov k (vs.map (Value.int .i64)) ∧ ∀ g, v3.ownBlock = some g → ov.ownBlock ≠ some g)
    (hg : (w3.alloc o).grownBy w4 ov.ownBlock) (hown : w4.ownsRow B 3 1 v4 (k + 1) (vs.map (Value.int .i64) ++ [.int .i64 y]))
    (hblk : v4.ownBlock = ov.ownBlock ∨ v4.ownBlock = some (w3.heap.size + 1)) : Two B w4 v3 v4 (k + 1) ts (vs ++ [y]) := by
  refine ⟨?_, by simpa using hown, ?_⟩
  · refine (h.1.alloc _).kept hg ?_
    cases h3 : v3.ownBlock with
    | none => exact .inl rfl
    | some g => exact .inr (fun e => h.2.2 g h3 e.symm)
  · intro g e1 e2
    rcases hblk with hb | hb
    · exact h.2.2 g e1 (hb ▸ e2)
    · rw [hb] at e2
      cases e2
      have := (h.1.lt _ e1).2
      omega

set_option maxRecDepth 100000 in
set_option maxHeartbeats 1000000 in
theorem l2Parts_any (a : Option Addr) (l : List (Int × Int)) (n cap : Nat) (w : World) (hn : l.length = n) (hs : Sl2 w a l) (hn2 : n ≤ 40) :
    Calls Tryd.prog 135 #[.slice a n cap] w fun e w' => ∃ ot, ∃ ov, e = .returned (.tuple #[ot, ov]) ∧ Two w.heap.size w' ot ov n (ats l) (vals l) ∧ Below w.heap.size w w' := by
  obtain ⟨i0, hi, hz0, hz1, hz2⟩ := info_parts info_int
  have HS := hide hs
  have HN := hide hn
  clear hs hn
  go_enter Tryd.func135, Tryd.ntmps135
  go_wp2
  go_loopw [4, 5, 10] (fun ot ov i wr => ∃ k : Nat, k ≤ n ∧ i = .int .i64 k ∧ Two w.heap.size wr ot ov k ((ats l).take k) ((vals l).take k) ∧ Below w.heap.size w wr) (fun _ _ i _ => n - (intOf i).toNat)
  case atStart => exact ⟨0, Nat.zero_le _, rfl, two_nil _ _, Below.refl _ _⟩
  case round =>
    obtain ⟨k, hk, rfl, htwo, hbel⟩ := hrel
    obtain ⟨oa, ocap, qa, qcap, rfl, rfl, _, _⟩ := htwo.form
    by_cases hlt : k < n
    · obtain ⟨b, off, rfl, hc0, hd0⟩ := HS.out k (by rw [HN.out]; exact hlt)
      have hc : wr.cell? ⟨b, off + k * 2, none⟩ = some (.int .i64 (l.getD k (0, 0)).1) := by
        rw [hbel.cell (p := ⟨b, off + k * 2, none⟩) (blk_lt hc0)]; exact hc0
      have hd : wr.cell? ⟨b, off + k * 2 + 1, none⟩ = some (.int .i64 (l.getD k (0, 0)).2) := by
        rw [hbel.cell (p := ⟨b, off + k * 2 + 1, none⟩) (blk_lt hd0)]; exact hd0
      have hltI : (k : Int) < (n : Int) := by omega
      have ht1 := ltake_snoc (ats l) k (by rw [ats_len, HN.out]; exact hlt)
      have ht2 := ltake_snoc (vals l) k (by rw [vals_len, HN.out]; exact hlt)
      rw [ats_get] at ht1
      rw [vals_get] at ht2
      obtain ⟨x, hx⟩ : ∃ x, x = (l.getD k (0, 0)).1 := ⟨_, rfl⟩
      obtain ⟨y, hy⟩ : ∃ y, y = (l.getD k (0, 0)).2 := ⟨_, rfl⟩
      rw [← hx] at hc ht1
      rw [← hy] at hd ht2
      obtain ⟨ts, hts⟩ : ∃ ts, ts = (ats l).take k := ⟨_, rfl⟩
      obtain ⟨vs, hvs⟩ : ∃ vs, vs = (vals l).take k := ⟨_, rfl⟩
      rw [← hts] at ht1 htwo
      rw [← hvs] at ht2 htwo
      have HT1 := hide ht1
      have HT2 := hide ht2
      have hbs := hbel.size
      have HTW := hide htwo
      clear hc0 hd0 hx hy ht1 ht2 htwo hts hvs
      go_wp2_with (first
        | (at_builtin; refine wpList_append_own_at _ rfl _ _ 32 rfl w.heap.size 3 i0 (.int .i64 0) 1 8 Tryd.underlying32 hi hz0 hz1 hz2 rfl (by decide) _ _ _ rfl ((HTW.out.1.alloc _).alloc _) ⟨wr.heap.size + 1, 0, none⟩ 1 1 [.int .i64 x] rfl rfl (fun j u h => by have := cell_one_new (wr.alloc (.cells #[.int .i64 x, .int .i64 y] 50)) (.int .i64 x) 3 j u h; rw [World.size_alloc] at this; exact this) (by intro u hu; simp at hu; subst hu; rfl) (by unfold maxLen; omega) (by omega) (by simp; omega) ?_)
        | go_in)
      intro v3 w3 hown3 hgrow3 _ hblk3
      have F3 := two_first HTW.out hgrow3 hown3 (by simpa using hblk3) (y := .int .i64 y)
      obtain ⟨hy3, hb3, HF3⟩ := F3
      have hb3' := hbel.trans (hb3.mono (Nat.le_refl _))
      have hs3 := hb3'.size
      clear hown3 hgrow3 hblk3 hb3
      obtain ⟨g3, c3, rfl⟩ := ownsRow_succ' HF3.out.1
      go_wp2_with (first
        | (at_builtin; refine wpList_append_own_at _ rfl _ _ 32 rfl w.heap.size 3 i0 (.int .i64 0) 1 8 Tryd.underlying32 hi hz0 hz1 hz2 rfl (by decide) _ _ _ rfl (HF3.out.2.1.alloc _) ⟨w3.heap.size, 0, none⟩ 1 1 [.int .i64 y] rfl rfl (cell_one_new _ _ _) (by intro u hu; simp at hu; subst hu; rfl) (by unfold maxLen; omega) (by omega) (by simp; omega) ?_)
        | go_in)
      intro v4 w4 hown4 hgrow4 _ hblk4
      have F4 := hide (two_second HF3.out hgrow4 hown4 (by simpa using hblk4))
      have hb4 := hb3'.trans (below_app hs3 hgrow4 (fun g hg => (HF3.out.2.1.lt g hg).1))
      clear hown4 hgrow4 hblk4
      go_wp2
      go_roundw
      case rel => exact ⟨k + 1, by omega, by go_num, by rw [HT1.out, HT2.out]; simpa using F4.out, hb4⟩
      case measure => simp [intOf]; omega
    · obtain rfl : n = k := by omega
      have e1 : (ats l).take n = ats l := List.take_of_length_le (by rw [ats_len, HN.out]; omega)
      have e2 : (vals l).take n = vals l := List.take_of_length_le (by rw [vals_len, HN.out]; omega)
      rw [e1, e2] at htwo
      have hltI : ¬ (n : Int) < (n : Int) := by omega
      have HTW := hide htwo
      clear e1 e2 htwo
      go_wp2
      go_ret2
      exact ⟨_, _, rfl, HTW.out, hbel⟩
end Go.Proofs.YtapffbbmofhpoaaDoor.L1
