/-
  Contracts of the specification's cursor (spec.l1Cur), from which the laws draw: next, pick, one, among. They say that a call returns, in which range its answer lies, and that it turns nothing but the cursor itself.
  The bounds of drawn logs. Nothing of the program's text is proved here.
  Contracts: (*spec.l1Cur).of, (*spec.l1Cur).record: some text of a list.
  Contracts: impl.NewLog, spec.NewLog.
  Contract: impl.digitsOf tells how many digits to 128 a number from 0 to 2000000000000 has, where the table of worths holds what its initialiser lays.
  Contract: impl.PutVarint makes the digits to 128 of a number's ZigZag, as a text, and true; outside -1000000000000..1000000000000 the empty text and false; memory that was there stays as it was.
  Contract: impl.AppendLog, where it answers none, and where the last piece has room.
  Contract: spec.l6Append where it answers none.
-/
import Derived.Test.YtbcljhafdpnjbabDoorBundle1
import Derived.Deep.QuietTactic
import Derived.BigQuiet
import Derived.Lib.Builder
import Derived.Test.YtbcljhafdpnjbabDoorBundle7
import Derived.Test.YtbcljhafdpnjbabDoorBundle2
import Derived.Test.YtbcljhafdpnjbabDoorBundle3
import Derived.Test.YtbcljhafdpnjbabDoorBundle4
import Derived.Test.YtbcljhafdpnjbabDoorBundle5
import Derived.Deep.RegionWith
import Derived.Deep.RegionHeld3
import Derived.Deep.DeepCutAuto
import Derived.Test.YtbcljhafdpnjbabDoorBundle6
namespace Go.Proofs.YtbcljhafdpnjbabDoor.L1
open Go.RowKit
set_option linter.unusedVariables false

/-- A list of bytes lies in memory, in a block below b. -/
def Slb (w : World) (b : Nat) (a : Option Addr) (n : Nat) : Prop :=
  ∀ i, i < n → ∃ bb off x, a = some ⟨bb, off, none⟩ ∧ bb < b ∧ w.cell? ⟨bb, off + i, none⟩ = some (.int .u8 x) ∧ 0 ≤ x ∧ x < 256
/-- A cursor lies in block b; it stands at most at N. -/
def Cur (w : World) (b N : Nat) : Prop :=
  ∃ (a : Option Addr) (n cap p : Nat) (sd : Int), w.heap[b]? = some (.cells #[.slice a n cap, .int .i64 (p : Int), .int .u64 sd] 58 (0, 0)) ∧ p ≤ N ∧ n ≤ 1048576 ∧ Slb w b a n
theorem Cur.mono {w : World} {b N M : Nat} (h : Cur w b N) (hm : N ≤ M) : Cur w b M := by
  obtain ⟨a, n, cap, p, sd, h1, h2, h3, h4⟩ := h
  exact ⟨a, n, cap, p, sd, h1, by omega, h3, h4⟩
theorem Cur.lt {w : World} {b N : Nat} (h : Cur w b N) : b < w.heap.size := by
  obtain ⟨a, n, cap, p, sd, h1, _⟩ := h
  exact (Array.getElem?_eq_some_iff.1 h1).1
/-- A cursor stays one where its own block and all below it are as they were. -/
theorem Cur.kept {w w' : World} {b N : Nat} (h : Cur w b N) (hb : ∀ k, k ≤ b → w'.heap[k]? = w.heap[k]?) : Cur w' b N := by
  obtain ⟨a, n, cap, p, sd, h1, h2, h3, h4⟩ := h
  refine ⟨a, n, cap, p, sd, by rw [hb b (Nat.le_refl _)]; exact h1, h2, h3, fun i hi => ?_⟩
  obtain ⟨bb, off, x, ha, hlt, hc, hx⟩ := h4 i hi
  exact ⟨bb, off, x, ha, hlt, by rw [World.cell?_of_block (w := w) (hb bb (by omega))]; exact hc, hx⟩
theorem Cur.below {w w' : World} {b N : Nat} (h : Cur w b N) (hb : Below w.heap.size w w') : Cur w' b N :=
  h.kept fun k hk => hb.block k (by have := h.lt; omega)
/-- Only block b has turned; nothing new was laid, or something. -/
theorem grown_trans {a b c : World} {r : Option Nat} (h : a.grownBy b r) (k : b.grownBy c r) : a.grownBy c r :=
  ⟨k.os.trans h.os, k.tape.trans h.tape, k.output.trans h.output, Nat.le_trans h.size k.size, fun i hi hn => (k.block i (Nat.lt_of_lt_of_le hi h.size) hn).trans (h.block i hi hn)⟩
theorem grown_below {a b : World} {r : Nat} (h : a.grownBy b (some r)) : Below r a b ∨ a.heap.size < r := by
  by_cases hr : r ≤ a.heap.size
  · exact .inl ⟨h.os, h.tape, h.output, h.size, fun k hk => h.block k (by omega) (by simp; omega)⟩
  · exact .inr (by omega)
theorem below_grown {a b : World} {r : Option Nat} (h : Below a.heap.size a b) : a.grownBy b r :=
  ⟨h.os, h.tape, h.output, h.size, fun k hk _ => h.block k hk⟩
theorem and255_bd (y : Int) : 0 ≤ wrap64 (bits .and .u64 y 255) ∧ wrap64 (bits .and .u64 y 255) ≤ 255 := by
  have h : bits .and .u64 y 255 = IntKind.u64.wrap ((BitVec.ofInt 64 y &&& BitVec.ofInt 64 255).toNat : Nat) := rfl
  have h2 : (BitVec.ofInt 64 y &&& BitVec.ofInt 64 255).toNat ≤ 255 := by
    rw [BitVec.toNat_and]
    exact Nat.and_le_right
  rw [h, IntKind.wrap_u64]
  generalize (BitVec.ofInt 64 y &&& BitVec.ofInt 64 255).toNat = m at h2
  unfold wrap64
  omega

theorem cur_step {w W' : World} {b N n cap p : Nat} {a : Option Addr} {sd s' : Int} (hbk : w.heap[b]? = some (.cells #[.slice a n cap, .int .i64 (p : Int), .int .u64 sd] 58 (0, 0))) (hp : p ≤ N) (hn : n ≤ 1048576) (hs : Slb w b a n)
    (hh : W'.heap = ((w.setCell ⟨b, 1, none⟩ (.int .i64 ((p : Int) + 1))).setCell ⟨b, 2, none⟩ (.int .u64 s')).heap) (ho : W'.os = w.os) (ht : W'.tape = w.tape) (hu : W'.output = w.output) :
    Cur W' b (N + 1) ∧ w.grownBy W' (some b) := by
  have h1 := heap_setCell_same w b 1 _ _ (.int .i64 ((p : Int) + 1)) hbk
  have h2 := heap_setCell_same _ b 2 _ _ (.int .u64 s') h1
  have hoth : ∀ k, k ≠ b → W'.heap[k]? = w.heap[k]? := fun k hk => by
    rw [hh, Below.heap_setCell _ _ _ _ (by simpa using hk), Below.heap_setCell _ _ _ _ (by simpa using hk)]
  refine ⟨⟨a, n, cap, p + 1, s', by rw [hh, h2]; rfl, by omega, hn, fun i hi => ?_⟩, ⟨ho, ht, hu, by rw [hh]; simp [World.setCell], fun k _ hk => hoth k (fun e => hk (by rw [e]))⟩⟩
  obtain ⟨bb, off, x, ha, hlt, hc, hx⟩ := hs i hi
  exact ⟨bb, off, x, ha, hlt, by rw [World.cell?_of_block (w := w) (hoth bb (by omega))]; exact hc, hx⟩

set_option maxRecDepth 100000 in
set_option maxHeartbeats 1000000 in
theorem next_any (b N : Nat) (w : World) (h : Cur w b N) (hN : N ≤ 1000000000000) :
    Calls Tryd.prog 71 #[.pointer (some ⟨b, 0, none⟩)] w fun e w' => ∃ x : Int, e = .returned (.int .i64 x) ∧ 0 ≤ x ∧ x ≤ 255 ∧ Cur w' b (N + 1) ∧ w.grownBy w' (some b) := by
  obtain ⟨a, n, cap, p, sd, hbk, hp, hn, hs⟩ := h
  have c0 : w.cell? ⟨b, 0, none⟩ = some (.slice a n cap) := Lib.cell_of_heap hbk 0
  have c1 : w.cell? ⟨b, 1, none⟩ = some (.int .i64 (p : Int)) := Lib.cell_of_heap hbk 1
  have c2 : w.cell? ⟨b, 2, none⟩ = some (.int .u64 sd) := Lib.cell_of_heap hbk 2
  have f1 := Lib.frozen_of_heap hbk 1
  have f2 := Lib.frozen_of_heap hbk 2
  have HB := hide hbk
  have HS := hide hs
  clear hbk hs
  by_cases hlt : p < n
  · obtain ⟨bb, off, x, rfl, hbb, hc, hx0, hx1⟩ := HS.out p hlt
    have hltI : (p : Int) < (n : Int) := by omega
    have hltJ : (p : Int) + 1 ≤ (n : Int) := by omega
    go_enter Tryd.func71, Tryd.ntmps71
    go_wp2
    go_quiet (fail)
    go_wp2
    go_quiet (fail)
    go_wp2
    go_quiet (fail)
    go_wp2
    go_ret
    exact ⟨x, rfl, hx0, by omega, cur_step HB.out hp hn HS.out rfl rfl rfl rfl⟩
  · have hltI : ¬ (p : Int) < (n : Int) := by omega
    have hltJ : ¬ (p : Int) + 1 ≤ (n : Int) := by omega
    go_enter Tryd.func71, Tryd.ntmps71
    go_wp2
    go_quiet (fail)
    go_wp2
    go_quiet (fail)
    go_wp2
    go_ret
    exact ⟨_, rfl, (and255_bd _).1, (and255_bd _).2, cur_step HB.out hp hn HS.out rfl rfl rfl rfl⟩

theorem emod_le_self (a n : Int) (ha : 0 ≤ a) (hn : 0 < n) : a % n ≤ a := by
  have h1 := Int.mul_ediv_add_emod a n
  have h2 : 0 ≤ n * (a / n) := Int.mul_nonneg (by omega) (Int.ediv_nonneg ha (by omega))
  omega

set_option maxRecDepth 100000 in
set_option maxHeartbeats 1000000 in
theorem pick_any (b N : Nat) (n : Int) (w : World) (h : Cur w b N) (hN : N ≤ 1000000000) (hn1 : -1000000000000 ≤ n) (hn2 : n ≤ 1000000000000) :
    Calls Tryd.prog 53 #[.pointer (some ⟨b, 0, none⟩), .int .i64 n] w fun e w' => ∃ x : Int, e = .returned (.int .i64 x) ∧ 0 ≤ x ∧ x ≤ 65535 ∧ (1 ≤ n → x < n) ∧ Cur w' b (N + 2) ∧ w.grownBy w' (some b) := by
  have HC := hide h
  clear h
  by_cases h1 : n ≤ 1
  · go_enter Tryd.func53, Tryd.ntmps53
    go_wp2
    go_ret
    exact ⟨0, rfl, by omega, by omega, by omega, HC.out.mono (by omega), ⟨rfl, rfl, rfl, Nat.le_refl _, fun _ _ _ => rfl⟩⟩
  · have h0 : 0 < n := by omega
    by_cases h200 : 200 < n
    · go_enter Tryd.func53, Tryd.ntmps53
      go_wp2_with fail
      refine (next_any b N _ HC.out (by omega)).mono ?_
      rintro e w1 ⟨x, rfl, hx0, hx1, hc1, hg1⟩
      have H1 := hide hc1
      have G1 := hide hg1
      clear hc1 hg1
      go_wp2_with fail
      refine (next_any b (N + 1) _ H1.out (by omega)).mono ?_
      rintro e w2 ⟨y, rfl, hy0, hy1, hc2, hg2⟩
      have H2 := hide hc2
      have G2 := hide (grown_trans G1.out hg2)
      have hm0 : 0 ≤ (x * 256 + y) % n := Int.emod_nonneg _ (by omega)
      have hm1 : (x * 256 + y) % n < n := Int.emod_lt_of_pos _ h0
      have hm2 : (x * 256 + y) % n ≤ x * 256 + y := emod_le_self _ _ (by omega) h0
      clear hc2 hg2
      go_wp2
      go_ret
      exact ⟨_, rfl, hm0, by omega, fun _ => hm1, H2.out, G2.out⟩
    · go_enter Tryd.func53, Tryd.ntmps53
      go_wp2_with fail
      refine (next_any b N _ HC.out (by omega)).mono ?_
      rintro e w1 ⟨x, rfl, hx0, hx1, hc1, hg1⟩
      have H1 := hide hc1
      have G1 := hide hg1
      have hm0 : 0 ≤ x % n := Int.emod_nonneg _ (by omega)
      have hm1 : x % n < n := Int.emod_lt_of_pos _ h0
      have hm2 : x % n ≤ x := emod_le_self _ _ (by omega) h0
      clear hc1 hg1
      go_wp2
      go_ret
      exact ⟨_, rfl, hm0, by omega, fun _ => hm1, H1.out.mono (by omega), G1.out⟩

set_option maxRecDepth 100000 in
set_option maxHeartbeats 400000 in
theorem one_any (b N : Nat) (n : Int) (w : World) (h : Cur w b N) (hN : N ≤ 1000000000) (hn1 : -1000000000000 ≤ n) (hn2 : n ≤ 1000000000000) :
    Calls Tryd.prog 57 #[.pointer (some ⟨b, 0, none⟩), .int .i64 n] w fun e w' => ∃ t : Bool, e = .returned (.bool t) ∧ Cur w' b (N + 2) ∧ w.grownBy w' (some b) := by
  have HC := hide h
  clear h
  go_enter Tryd.func57, Tryd.ntmps57
  go_wp2_with fail
  refine (pick_any b N _ _ HC.out hN hn1 hn2).mono ?_
  rintro e w1 ⟨x, rfl, hx0, hx1, _, hc1, hg1⟩
  have H1 := hide hc1
  have G1 := hide hg1
  clear hc1 hg1
  go_wp2
  go_ret
  exact ⟨_, rfl, H1.out, G1.out⟩

set_option maxRecDepth 100000 in
set_option maxHeartbeats 400000 in
theorem among_any (b N g m cap : Nat) (xs : List Int) (w : World) (h : Cur w b N) (hN : N ≤ 1000000000) (hxs : xs.length = m) (h1 : 1 ≤ m) (h2 : m ≤ 1000) (hg : g ≠ b) (hs : Sl w (some ⟨g, 0, none⟩) xs) :
    Calls Tryd.prog 59 #[.pointer (some ⟨b, 0, none⟩), .slice (some ⟨g, 0, none⟩) m cap] w fun e w' => ∃ j, j < m ∧ e = .returned (.int .i64 (xs.getD j 0)) ∧ Cur w' b (N + 2) ∧ w.grownBy w' (some b) := by
  have HC := hide h
  have HS := hide hs
  have HX := hide hxs
  clear h hs hxs
  go_enter Tryd.func59, Tryd.ntmps59
  go_wp2_with fail
  refine (pick_any b N _ _ HC.out hN (by omega) (by omega)).mono ?_
  rintro e w1 ⟨x, rfl, hx0, hx1, hxm, hc1, hg1⟩
  have hxm' : x < (m : Int) := hxm (by omega)
  clear hxm
  obtain ⟨j, rfl⟩ : ∃ j : Nat, x = (j : Int) := ⟨x.toNat, by omega⟩
  have hc0 := HS.out.at j (by rw [HX.out]; omega)
  have hc : w1.cell? ⟨g, 0 + j, none⟩ = some (.int .i64 (xs.getD j 0)) := by
    rw [World.cell?_of_block (w := w) (hg1.block g (blk_lt hc0) (by simpa using hg))]
    exact hc0
  simp only [Nat.zero_add] at hc
  have H1 := hide hc1
  have G1 := hide hg1
  have hj : j < m := by omega
  obtain ⟨y, hy⟩ : ∃ y, y = xs.getD j 0 := ⟨_, rfl⟩
  rw [← hy] at hc
  have HY := hide hy
  clear hc1 hg1 hc0 hy
  go_wp2
  go_ret
  exact ⟨j, hj, by rw [← HY.out]; rfl, H1.out, G1.out⟩

theorem lit_row (w : World) (cs : Array Value) (xs : List Int) (h : cs.toList = xs.map (Value.int .i64)) : Sl (w.alloc (.cells cs 3)) (some ⟨w.heap.size, 0, none⟩) xs := fun i hi => by
  refine ⟨w.heap.size, 0, rfl, ?_⟩
  have hb : (w.alloc (.cells cs 3)).heap[w.heap.size]? = some (.cells cs 3 (0, 0)) := by show (w.heap.push _)[w.heap.size]? = _; simp
  rw [Lib.cell_of_heap hb, Nat.zero_add, ← Array.getElem?_toList, h, List.getElem?_map, List.getElem?_eq_getElem hi]
  simp [List.getD, List.getElem?_eq_getElem hi]
theorem grown_alloc (w : World) (o : Obj) (b : Nat) : w.grownBy (w.alloc o) (some b) := World.grownBy_alloc w o (some b)
theorem Cur.alloc {w : World} {b N : Nat} (h : Cur w b N) (o : Obj) : Cur (w.alloc o) b N :=
  h.below ((Below.refl _ _).alloc (Nat.le_refl _) _)

end Go.Proofs.YtbcljhafdpnjbabDoor.L1

namespace Go.Proofs.YtbcljhafdpnjbabDoor.L6
open Go.RowKit L1
set_option linter.unusedVariables false

theorem dropW_form (o : Int) : ∀ L : List Pc, 1 ≤ L.length → ∃ k, k < L.length ∧ dropW L o = L.drop k
  | [], h => by simp at h
  | [p], _ => ⟨0, by simp, rfl⟩
  | p :: q :: r, _ => by
    by_cases hq : q.f ≤ o
    · obtain ⟨k, hk, e⟩ := dropW_form o (q :: r) (by simp)
      refine ⟨k + 1, by simp at hk ⊢; omega, ?_⟩
      show (if _ then _ else _) = _
      rw [if_pos hq, e]
      rfl
    · refine ⟨0, by simp, ?_⟩
      show (if _ then _ else _) = _
      rw [if_neg hq]
      rfl
/-- A log of few, small pieces. -/
structure DrB (L : List Pc) (B : Int) : Prop where
  one : 1 ≤ L.length
  many : L.length ≤ 20
  ps : ∀ i, i < L.length → (gc L i).s.size ≤ 60 ∧ (gc L i).x.length ≤ 60 ∧ 0 ≤ (gc L i).f ∧ (gc L i).f ≤ 1300
  b0 : 0 ≤ B
  b1 : B ≤ 1400
theorem DrB.sz {L : List Pc} {B : Int} (h : DrB L B) : SzC L := fun j hj => by
  have h1 := h.ps j hj
  exact ⟨Nat.le_trans h1.1 (by omega), Nat.le_trans h1.2.1 (by omega)⟩
theorem dr_new : DrB [eC] 0 := ⟨by simp, by simp, fun i hi => by
  obtain rfl : i = 0 := by simp at hi; omega
  simp [gc, List.getD, eC], by omega, by omega⟩
theorem dr_end {L : List Pc} {B : Int} (h : DrB L B) (hg : GoodG L B) : 0 ≤ endg L ∧ endg L ≤ 1360 := by
  have h1 := hg.last (n := L.length) rfl
  have h2 := h.ps (L.length - 1) (by have := h.one; omega)
  have h3 := cnt_le (gc L (L.length - 1)).s
  rw [← h1]
  unfold lastEnd
  omega
theorem dr_app {L L' : List Pc} {B B' : Int} {r : ByteArray} (h : DrB L B) (h0 : (gc L 0).f = 0) (ha : AppIs L B r L' B' true) : DrB L' B' ∧ (gc L' 0).f = 0 ∧ B' = B := by
  classical
  have h1 := h.one
  by_cases hp : AppPre L B r
  · by_cases hf : AppFits L r
    · obtain ⟨_, rfl, rfl⟩ := ha.put hp hf
      have e0 : ∀ i, i < L.length → gc (L.set (L.length - 1) (appP (endP L) r)) i = if i = L.length - 1 then appP (endP L) r else gc L i := fun i hi => by
        by_cases e : i = L.length - 1
        · subst e
          rw [if_pos rfl]
          simp [gc, List.getD, hi]
        · rw [if_neg e]
          simp [gc, List.getD, List.getElem?_set_ne (Ne.symm e)]
      have hl := h.ps (L.length - 1) (by omega)
      refine ⟨⟨by simpa using h1, by simpa using h.many, fun i hi => ?_, h.b0, h.b1⟩, ?_, rfl⟩
      · have hi' : i < L.length := by simpa using hi
        rw [e0 i hi']
        split
        · refine ⟨by show (_ ++ _ : ByteArray).size ≤ 60; rw [app_size _ _ hp.2.1]; exact hf, ix_len60 (by rw [app_size _ _ hp.2.1]; exact hf), hl.2.2.1, hl.2.2.2⟩
        · exact h.ps i hi'
      · rw [e0 0 (by omega)]
        split
        · rename_i e
          show (endP L).f = 0
          unfold endP
          rw [← e]
          exact h0
        · exact h0
    · by_cases h20 : L.length = 20
      · exact absurd (ha.full hp hf h20).1 (by simp)
      · obtain ⟨_, rfl, rfl⟩ := ha.more hp hf h20
        have hr := rec_whole hp.2.1
        have e0 : ∀ i, i < L.length → gc (L ++ [⟨lastEnd L L.length, rec r, ix (rec r)⟩]) i = gc L i := fun i hi => by simp [gc, List.getD, List.getElem?_append_left hi]
        have e1 : gc (L ++ [⟨lastEnd L L.length, rec r, ix (rec r)⟩]) L.length = ⟨lastEnd L L.length, rec r, ix (rec r)⟩ := by simp [gc, List.getD]
        have hle : 0 ≤ lastEnd L L.length ∧ lastEnd L L.length ≤ 1300 := by
          have hb := atg_bd L L.length (fun j hj => (hp.1.ps j hj).1)
          have he := hp.1.last (n := L.length) rfl
          have hq : endg L = atg L L.length := rfl
          have hm := h.many
          omega
        refine ⟨⟨by simp, by have := h.many; simp; omega, fun i hi => ?_, h.b0, h.b1⟩, by rw [e0 0 (by omega)]; exact h0, rfl⟩
        by_cases e : i < L.length
        · rw [e0 i e]
          exact h.ps i e
        · obtain rfl : i = L.length := by simp at hi; omega
          rw [e1]
          exact ⟨by show (rec r).size ≤ 60; omega, ix_len60 (by omega), hle.1, hle.2⟩
  · exact absurd (ha.no hp).1 (by simp)
theorem dr_drop {L L' : List Pc} {B B' o : Int} (h : DrB L B) (ha : DropIs L B o L' B' true) : DrB L' B' := by
  classical
  by_cases hc : CutOk L B o
  · obtain ⟨rfl, rfl, _⟩ := ha.yes hc
    obtain ⟨k, hk, e⟩ := dropW_form B' L h.one
    have he := dr_end h hc.1
    rw [e]
    refine ⟨by simp; omega, by have := h.many; simp; omega, fun i hi => ?_, ?_, ?_⟩
    · have : gc (L.drop k) i = gc L (k + i) := by simp [gc, List.getD]
      rw [this]
      exact h.ps (k + i) (by simp at hi; omega)
    · have := hc.2.1
      have := h.b0
      omega
    · have := hc.2.2
      omega
  · exact absurd (ha.no hc).2.2 (by simp)
theorem OwC.grown {w w' : World} {base n : Nat} {v : Value} {M : List PV} {r : Nat} (h : OwC w base v n M) (hg : w.grownBy w' (some r)) (hr : r < base) : OwC w' base v n M :=
  ⟨h.len, own_keptC h.row hg (fun q hq e => by have := (own_ltC h.row q hq).1; cases e; omega), fun i hi => own_keptC (h.idx i hi) hg (fun q hq e => by have := (own_ltC (h.idx i hi) q hq).1; cases e; omega), h.apart⟩
end Go.Proofs.YtbcljhafdpnjbabDoor.L6

namespace Go.Proofs.YtbcljhafdpnjbabDoor.L6
open Go.RowKit L1
set_option linter.unusedVariables false

set_option maxRecDepth 100000 in
set_option maxHeartbeats 400000 in
theorem of_any (b N g m cap : Nat) (xs : List ByteArray) (w : World) (h : Cur w b N) (hN : N ≤ 1000000000) (hxs : xs.length = m) (h1 : 1 ≤ m) (h2 : m ≤ 1000) (hg : g ≠ b) (hs : SlT w (some ⟨g, 0, none⟩) xs) :
    Calls Tryd.prog 60 #[.pointer (some ⟨b, 0, none⟩), .slice (some ⟨g, 0, none⟩) m cap] w fun e w' => ∃ j, j < m ∧ e = .returned (.string (xs.getD j e0)) ∧ Cur w' b (N + 2) ∧ w.grownBy w' (some b) := by
  have HC := hide h
  have HS := hide hs
  have HX := hide hxs
  clear h hs hxs
  go_enter Tryd.func60, Tryd.ntmps60
  go_wp2_with fail
  refine (pick_any b N _ _ HC.out hN (by omega) (by omega)).mono ?_
  rintro e w1 ⟨x, rfl, hx0, hx1, hxm, hc1, hg1⟩
  have hxm' : x < (m : Int) := hxm (by omega)
  clear hxm
  obtain ⟨j, rfl⟩ : ∃ j : Nat, x = (j : Int) := ⟨x.toNat, by omega⟩
  obtain ⟨b', off', e', hc0⟩ := HS.out j (by rw [HX.out]; omega)
  cases e'
  have hc : w1.cell? ⟨g, 0 + j, none⟩ = some (.string (xs.getD j e0)) := by
    rw [World.cell?_of_block (w := w) (hg1.block g (blk_lt hc0) (by simpa using hg))]
    exact hc0
  simp only [Nat.zero_add] at hc
  have H1 := hide hc1
  have G1 := hide hg1
  have hj : j < m := by omega
  obtain ⟨y, hy⟩ : ∃ y, y = xs.getD j e0 := ⟨_, rfl⟩
  rw [← hy] at hc
  have HY := hide hy
  clear hc1 hg1 hc0 hy
  go_wp2
  go_ret
  exact ⟨j, hj, by rw [← HY.out]; rfl, H1.out, G1.out⟩
theorem lit_rowT (w : World) (cs : Array Value) (xs : List ByteArray) (h : cs.toList = xs.map Value.string) : SlT (w.alloc (.cells cs 9)) (some ⟨w.heap.size, 0, none⟩) xs := fun i hi => by
  refine ⟨w.heap.size, 0, rfl, ?_⟩
  have hb : (w.alloc (.cells cs 9)).heap[w.heap.size]? = some (.cells cs 9 (0, 0)) := by show (w.heap.push _)[w.heap.size]? = _; simp
  rw [Lib.cell_of_heap hb, Nat.zero_add, ← Array.getElem?_toList, h, List.getElem?_map, List.getElem?_eq_getElem hi]
  simp [List.getD, List.getElem?_eq_getElem hi]
theorem lit_rowT' (w : World) (g : Nat) (cs : Array Value) (xs : List ByteArray) (hg : w.heap.size = g) (h : cs.toList = xs.map Value.string) : SlT (w.alloc (.cells cs 9)) (some ⟨g, 0, none⟩) xs := by
  subst hg
  exact lit_rowT w cs xs h
theorem recs_small : ∀ j, j < 6 → (([⟨#[]⟩, ⟨#[97]⟩, ⟨#[112, 117, 116, 32, 120]⟩, ⟨#[97, 32, 108, 111, 110, 103, 101, 114, 32, 114, 101, 99, 111, 114, 100]⟩, ⟨#[116, 119, 101, 110, 116, 121, 32, 98, 121, 116, 101, 115, 44, 32, 111, 114, 32, 115, 111, 46, 46]⟩, ⟨#[115, 105, 120, 116, 101, 101, 110, 32, 98, 121, 116, 101, 115, 46, 46, 46]⟩] : List ByteArray).getD j e0).size ≤ 21 := by decide

set_option maxRecDepth 100000 in
set_option maxHeartbeats 400000 in
theorem record_any (b N : Nat) (w : World) (h : Cur w b N) (hN : N ≤ 1000000000) :
    Calls Tryd.prog 32 #[.pointer (some ⟨b, 0, none⟩)] w fun e w' => ∃ r : ByteArray, e = .returned (.string r) ∧ r.size ≤ 21 ∧ Cur w' b (N + 2) ∧ w.grownBy w' (some b) := by
  have hlt := h.lt
  have C := hide (of_any b N w.heap.size 6 6 [⟨#[]⟩, ⟨#[97]⟩, ⟨#[112, 117, 116, 32, 120]⟩, ⟨#[97, 32, 108, 111, 110, 103, 101, 114, 32, 114, 101, 99, 111, 114, 100]⟩, ⟨#[116, 119, 101, 110, 116, 121, 32, 98, 121, 116, 101, 115, 44, 32, 111, 114, 32, 115, 111, 46, 46]⟩, ⟨#[115, 105, 120, 116, 101, 101, 110, 32, 98, 121, 116, 101, 115, 46, 46, 46]⟩] (w.alloc (.cells #[.string ⟨#[]⟩, .string ⟨#[97]⟩, .string ⟨#[112, 117, 116, 32, 120]⟩, .string ⟨#[97, 32, 108, 111, 110, 103, 101, 114, 32, 114, 101, 99, 111, 114, 100]⟩, .string ⟨#[116, 119, 101, 110, 116, 121, 32, 98, 121, 116, 101, 115, 44, 32, 111, 114, 32, 115, 111, 46, 46]⟩, .string ⟨#[115, 105, 120, 116, 101, 101, 110, 32, 98, 121, 116, 101, 115, 46, 46, 46]⟩] 9)) (h.alloc _) hN rfl (by omega) (by omega) (by omega) (lit_rowT' w _ _ _ rfl rfl))
  clear h
  go_enter Tryd.func32, Tryd.ntmps32
  go_wp2_with fail
  refine C.out.mono ?_
  rintro e w1 ⟨j, hj, rfl, hc, hg⟩
  have hsz := recs_small j hj
  obtain ⟨r, hr⟩ : ∃ r, r = ([⟨#[]⟩, ⟨#[97]⟩, ⟨#[112, 117, 116, 32, 120]⟩, ⟨#[97, 32, 108, 111, 110, 103, 101, 114, 32, 114, 101, 99, 111, 114, 100]⟩, ⟨#[116, 119, 101, 110, 116, 121, 32, 98, 121, 116, 101, 115, 44, 32, 111, 114, 32, 115, 111, 46, 46]⟩, ⟨#[115, 105, 120, 116, 101, 101, 110, 32, 98, 121, 116, 101, 115, 46, 46, 46]⟩] : List ByteArray).getD j e0 := ⟨_, rfl⟩
  rw [← hr] at hsz ⊢
  have HC := hide hc
  have HG := hide (grown_trans (grown_alloc w (.cells #[.string ⟨#[]⟩, .string ⟨#[97]⟩, .string ⟨#[112, 117, 116, 32, 120]⟩, .string ⟨#[97, 32, 108, 111, 110, 103, 101, 114, 32, 114, 101, 99, 111, 114, 100]⟩, .string ⟨#[116, 119, 101, 110, 116, 121, 32, 98, 121, 116, 101, 115, 44, 32, 111, 114, 32, 115, 111, 46, 46]⟩, .string ⟨#[115, 105, 120, 116, 101, 101, 110, 32, 98, 121, 116, 101, 115, 46, 46, 46]⟩] 9) b) hg)
  clear hc hg hr C
  go_wp2
  go_ret
  exact ⟨r, rfl, hsz, HC.out, HG.out⟩
end Go.Proofs.YtbcljhafdpnjbabDoor.L6

namespace Go.Proofs.YtbcljhafdpnjbabDoor.L6
open Go.RowKit L1
set_option linter.unusedVariables false

set_option maxRecDepth 100000 in
set_option maxHeartbeats 1000000 in
theorem implNewLog_any (w : World) :
    Calls Tryd.prog 29 #[] w fun e w' => ∃ a c M, e = .returned (.agg #[.slice a 1 c, .int .i64 0]) ∧ pcs M = [eC] ∧ OwC w' w.heap.size (.slice a 1 c) 1 M ∧ Below w.heap.size w w' := by
  obtain ⟨i0, hi, hz0, hz1, hz2⟩ := info_parts info_piece
  obtain ⟨W, hW⟩ : ∃ W, W = w.alloc (.cells #[.slice none 0 0, .int .i64 0] 25 (0, 0)) := ⟨_, rfl⟩
  obtain ⟨w1, hmk, hown1, hg1⟩ := run_make_full (P := Tryd.prog) W W.heap.size 23 50 i0 (.agg #[.int .i64 0, .string ByteArray.empty, .slice none 0 0]) 3 Tryd.underlying23 hi hz0 hz1 .i64 .i64 1 (by rw [hz2]; omega) (by unfold maxLen; omega) (Nat.le_refl _)
  rw [made_cs] at hown1
  have hb1 : Below W.heap.size W w1 := (Below.refl _ _).grown hg1 (Nat.le_refl _) (fun k hk => by cases hk)
  have hWs : W.heap.size = w.heap.size + 1 := by rw [hW]; simp
  have O := hide (own_zero hown1)
  obtain ⟨c0, c1, c2, c3⟩ := blkp ((hb1.block w.heap.size (by omega)).trans (show W.heap[w.heap.size]? = some (.cells #[.slice none 0 0, .int .i64 0] 25 (0, 0)) by rw [hW]; exact blk_new _ _))
  have B := hide ((show Below w.heap.size w W by rw [hW]; exact (Below.refl _ _).alloc (Nat.le_refl _) _).trans (hb1.mono (by omega)))
  have HW := hide hWs
  rw [hWs] at hmk O
  subst hW
  rw [show ((1 : Nat) : Int) = 1 from rfl] at hmk
  clear hown1 hg1 hb1 hWs
  go_enter Tryd.func29, Tryd.ntmps29
  go_wp2
  refine bodyPost_ret (v := .agg #[.slice (some ⟨w.heap.size + 1, 0, none⟩) 1 1, .int .i64 0]) (by simp [results, Tryd.f29, go_sem, c0, c1]) rfl ⟨_, _, List.replicate 1 eV, rfl, rfl, ?_, ?_⟩
  · have z : w.heap.size < w.heap.size + 1 := by omega
    exact ((O.out.setC ⟨_, _, none⟩ _ z).setC ⟨_, _, none⟩ _ z).base (by omega)
  · exact (B.out.setCell (p := ⟨_, _, none⟩) (Nat.le_refl _) _).setCell (p := ⟨_, _, none⟩) (Nat.le_refl _) _

set_option maxRecDepth 100000 in
set_option maxHeartbeats 1000000 in
theorem specNewLog_any (w : World) :
    Calls Tryd.prog 30 #[] w fun e w' => ∃ a c M, e = .returned (.agg #[.slice a 1 c, .int .i64 0]) ∧ pcs M = [eC] ∧ OwC w' w.heap.size (.slice a 1 c) 1 M ∧ Below w.heap.size w w' := by
  have O : OwC ((w.alloc (.cells #[.slice (some ⟨w.heap.size + 1, 0, none⟩) 1 1, .int .i64 0] 25 (0, 0))).alloc (.cells #[.int .i64 0, .string ByteArray.empty, .slice none 0 0] 50 (0, 0))) w.heap.size (.slice (some ⟨w.heap.size + 1, 0, none⟩) 1 1) 1 (List.replicate 1 eV) := by
    refine own_zero ⟨rfl, .inr ⟨w.heap.size + 1, 1, #[.int .i64 0, .string ByteArray.empty, .slice none 0 0], rfl, by omega, ?_, Nat.le_refl _, by unfold maxLen; omega, rfl, rfl⟩⟩
    have := blk_new (w.alloc (.cells #[.slice (some ⟨w.heap.size + 1, 0, none⟩) 1 1, .int .i64 0] 25 (0, 0))) (.cells #[.int .i64 0, .string ByteArray.empty, .slice none 0 0] 50 (0, 0))
    rw [World.size_alloc] at this
    exact this
  have HO := hide O
  clear O
  go_enter Tryd.func30, Tryd.ntmps30
  go_wp2
  refine bodyPost_ret (v := .agg #[.slice (some ⟨w.heap.size + 1, 0, none⟩) 1 1, .int .i64 0]) (by simp [results, Tryd.f30, go_sem]) rfl ⟨_, _, _, rfl, ?_, HO.out, ?_⟩
  · rfl
  · exact ((Below.refl _ _).alloc (Nat.le_refl _) _).alloc (by simp) _
end Go.Proofs.YtbcljhafdpnjbabDoor.L6

namespace Go.Proofs.YtbcljhafdpnjbabDoor.L1
open Go.RowKit
set_option linter.unusedVariables false

set_option maxRecDepth 100000 in
set_option maxHeartbeats 400000 in
theorem digitsOf_any (z : Int) (w : World) (h0 : 0 ≤ z) (h1 : z ≤ 2000000000000) (ht : Tab w) :
    Calls Tryd.prog 62 #[.int .i64 z] w fun e w' => e = .returned (.int .i64 ((vd z).length : Nat)) ∧ w = w' := by
  have hpos := vdf_pos 5 z
  have hle := vdf_le 5 z
  have hlen := vdf_len 5 z
  change 1 ≤ (vd z).length at hpos
  change (vd z).length ≤ 6 at hle
  change ∀ k : Nat, 0 ≤ z → 1 ≤ k → (k < (vd z).length ↔ k ≤ 5 ∧ wor k ≤ z) at hlen
  have HL := hide hlen
  have HT := hide ht
  clear hlen ht
  generalize (vd z).length = m at *
  go_enter Tryd.func62, Tryd.ntmps62
  go_wp2
  go_loop [3] (fun i => ∃ k : Nat, 1 ≤ k ∧ k ≤ m ∧ i = .int .i64 k) (fun i => 6 - (intOf i).toNat)
  case atStart => exact ⟨1, by omega, by omega, rfl⟩
  case round =>
    obtain ⟨k, hk1, hk2, rfl⟩ := hrel
    by_cases hlt : k < m
    · have h := (unhide HL k h0 hk1).1 hlt
      have hc := unhide HT k (by omega)
      have h6 : (k : Int) < 6 := by omega
      have hw := h.2
      clear h
      go_wp2
      go_round
      case rel => exact ⟨k + 1, by omega, by omega, by go_num⟩
      case measure => simp [intOf]; omega
    · obtain rfl : k = m := by omega
      by_cases h6 : (k : Int) < 6
      · have hc := unhide HT k (by omega)
        have hw : ¬ wor k ≤ z := fun h => by have := (unhide HL k h0 hk1).2 ⟨by omega, h⟩; omega
        go_wp2
        go_ret
        exact ⟨rfl, rfl⟩
      · go_wp2
        go_ret
        exact ⟨rfl, rfl⟩
end Go.Proofs.YtbcljhafdpnjbabDoor.L1

namespace Go.Proofs.YtbcljhafdpnjbabDoor.L1
open Go.RowKit
set_option linter.unusedVariables false

set_option maxRecDepth 100000 in
set_option maxHeartbeats 400000 in
theorem zigZag_yes (n : Int) (w : World) (h1 : -1000000000000 ≤ n) (h2 : n ≤ 1000000000000) :
    Calls Tryd.prog 61 #[.int .i64 n] w fun e w' => e = .returned (.tuple #[.int .i64 (zig n), .bool true]) ∧ w = w' := by
  unfold zig
  by_cases h : n < 0
  · rw [if_pos h]
    go_enter Tryd.func61, Tryd.ntmps61
    go_wp2
    go_ret2
    exact ⟨rfl, rfl⟩
  · rw [if_neg h]
    go_enter Tryd.func61, Tryd.ntmps61
    go_wp2
    go_ret2
    exact ⟨rfl, rfl⟩
set_option maxRecDepth 100000 in
set_option maxHeartbeats 400000 in
theorem zigZag_no (n : Int) (w : World) (h : ¬ (-1000000000000 ≤ n ∧ n ≤ 1000000000000)) :
    Calls Tryd.prog 61 #[.int .i64 n] w fun e w' => e = .returned (.tuple #[.int .i64 0, .bool false]) ∧ w = w' := by
  by_cases h1 : -1000000000000 ≤ n
  · have h2 : ¬ n ≤ 1000000000000 := fun h2 => h ⟨h1, h2⟩
    clear h
    go_enter Tryd.func61, Tryd.ntmps61
    go_wp2
    go_ret2
    exact ⟨rfl, rfl⟩
  · clear h
    go_enter Tryd.func61, Tryd.ntmps61
    go_wp2
    go_ret2
    exact ⟨rfl, rfl⟩

set_option maxRecDepth 100000 in
set_option maxHeartbeats 400000 in
theorem putVarint_no (n : Int) (w : World) (h : ¬ (-1000000000000 ≤ n ∧ n ≤ 1000000000000)) :
    Calls Tryd.prog 34 #[.int .i64 n] w fun e w' => e = .returned (.tuple #[.string ⟨#[]⟩, .bool false]) ∧ w = w' := by
  have zc := fun w => zigZag_no n w h
  have ZC := hide zc
  clear zc h
  go_enter Tryd.func34, Tryd.ntmps34
  go_wp2_with (go_at_call 61; refine (unhide ZC _).mono ?_; rintro e w' ⟨rfl, rfl⟩)
  go_ret2
  exact ⟨rfl, rfl⟩

theorem vd_get (z : Int) (k : Nat) (h0 : 0 ≤ z) (h1 : z ≤ 2000000000000) (hk : k < (vd z).length) :
    (vd z).getD k 0 = z / wor k % 128 + (if k + 1 < (vd z).length then 128 else 0) :=
  vdf_get 5 z k h0 (by simp [wor]; omega) hk

theorem made_row (n : Nat) : (madeCells (Value.int .u8 0).cells (n * 1)).toList = (List.replicate n (0 : Int)).map (Value.int .u8) := by
  rw [Nat.mul_one]
  show (madeCells #[Value.int .u8 0] n).toList = _
  rw [toList_madeCells_one]
  simp

/-- One round: the next digit is laid at its place. -/
theorem put_round {w wr : World} {Z d : Int} {m k : Nat} {xs : List Int} (hlt : k < m) (hl : xs.length = m) (hd : (vd Z).getD k 0 = d) (HX : ∀ j, j < k → xs.getD j 0 = (vd Z).getD j 0)
    (hown : wr.ownsRow w.heap.size 5 1 (.slice (some ⟨w.heap.size, 0, none⟩) m m) m (xs.map (Value.int .u8))) (hb : Below w.heap.size w wr) (HT : Tab wr) (ht : 0 < w.heap.size) :
    ∃ (k' : Nat) (xs' : List Int), k' ≤ m ∧ Value.int .i64 ((k : Int) + 1) = .int .i64 k' ∧ xs'.length = m ∧ Hid (∀ j, j < k' → xs'.getD j 0 = (vd Z).getD j 0) ∧
      (wr.setCell ⟨w.heap.size, k, none⟩ (.int .u8 d)).ownsRow w.heap.size 5 1 (.slice (some ⟨w.heap.size, 0, none⟩) m m) m (xs'.map (Value.int .u8)) ∧ Below w.heap.size w (wr.setCell ⟨w.heap.size, k, none⟩ (.int .u8 d)) ∧ Hid (Tab (wr.setCell ⟨w.heap.size, k, none⟩ (.int .u8 d))) := by
  have hst := hown.stored k (.int .u8 d)
  have hb2 := hb.setCell (p := ⟨w.heap.size, k, none⟩) (Nat.le_refl _) (.int .u8 d)
  refine ⟨k + 1, xs.set k d, by omega, by simp, by simpa using hl, ?_, by rw [List.map_set]; exact hst.1, hb2, ?_⟩
  · intro j hj
    by_cases e : j = k
    · subst e
      rw [hd]
      simp [List.getD, hl, hlt]
    · rw [← HX j (by omega)]
      simp [List.getD, Ne.symm e]
  · intro j hj
    have := HT j hj
    rw [← this]
    exact World.cell?_of_block (Below.heap_setCell _ _ _ _ (by simp; omega))

set_option maxRecDepth 100000 in
set_option maxHeartbeats 1000000 in
theorem putVarint_yes (n : Int) (w : World) (h1 : -1000000000000 ≤ n) (h2 : n ≤ 1000000000000) (ht : Tab w) :
    Calls Tryd.prog 34 #[.int .i64 n] w fun e w' => e = .returned (.tuple #[.string (strOfNums (vd (zig n))), .bool true]) ∧ Below w.heap.size w w' := by
  have z0 := zig_lo n
  have z1 := zig_hi n h1 h2
  obtain ⟨i0, hi, hz0, hz1, hz2⟩ := info_parts info_u8
  have hm6 : (vd (zig n)).length ≤ 6 := vdf_le 5 (zig n)
  have hm1 : 1 ≤ (vd (zig n)).length := vdf_pos 5 (zig n)
  obtain ⟨w1, hmk, hown1, hg1⟩ := run_make_full (P := Tryd.prog) w w.heap.size 22 5 i0 (.int .u8 0) 1 Tryd.underlying22 hi hz0 hz1 .i64 .i64 (vd (zig n)).length (by rw [hz2]; omega) (by unfold maxLen; omega) (Nat.le_refl _)
  rw [made_row] at hown1
  have hb1 : Below w.heap.size w w1 := (Below.refl _ _).grown hg1 (Nat.le_refl _) (fun k hk => by cases hk)
  have HT1 := hide (ht.below hb1)
  have hgl : 0 < w.heap.size := block_lt (ht 0 (by omega))
  have HO := hide hown1
  clear hown1 hg1
  obtain ⟨Z, hZ⟩ : ∃ Z, Z = zig n := ⟨_, rfl⟩
  have zc := fun w => zigZag_yes n w h1 h2
  have dc := digitsOf_any (zig n) w z0 z1 ht
  rw [← hZ] at z0 z1 zc dc hm6 hm1 hmk HO ⊢
  have HZ := hide hZ
  obtain ⟨m, hm⟩ : ∃ m, m = (vd Z).length := ⟨_, rfl⟩
  rw [← hm] at hm6 hm1 hmk HO dc
  have HM := hide hm
  have ZC := hide zc
  have DC := hide dc
  clear hZ hm h1 h2 ht zc dc
  go_enter Tryd.func34, Tryd.ntmps34
  go_wp2_with (first | (go_at_call 61; refine (unhide ZC _).mono ?_; rintro e w' ⟨rfl, rfl⟩) | (go_at_call 62; refine (unhide DC).mono ?_; rintro e w' ⟨rfl, rfl⟩))
  go_loopw [25] (fun i wr => ∃ (k : Nat) (xs : List Int), k ≤ m ∧ i = .int .i64 k ∧ xs.length = m ∧ Hid (∀ j, j < k → xs.getD j 0 = (vd Z).getD j 0) ∧
      wr.ownsRow w.heap.size 5 1 (.slice (some ⟨w.heap.size, 0, none⟩) m m) m (xs.map (Value.int .u8)) ∧ Below w.heap.size w wr ∧ Hid (Tab wr)) (fun i _ => m - (intOf i).toNat)
  case atStart => exact ⟨0, List.replicate m 0, Nat.zero_le _, rfl, by simp, fun j hj => absurd hj (Nat.not_lt_zero _), HO, hb1, HT1⟩
  case round =>
    obtain ⟨k, xs, hk, rfl, hxl, HX, hown, hbel, HT⟩ := hrel
    have HL := hide hxl
    clear hxl
    by_cases hlt : k < m
    · have hc := unhide HT k (by omega)
      have hw1 := wor_pos k
      have hg := vd_get Z k z0 z1 (by rw [← HM.out]; exact hlt)
      rw [← HM.out] at hg
      have hcl := hown.cellAt k (by omega)
      have hfr := hown.frozenAt k
      have hst := hown.stored k (.int .u8 ((vd Z).getD k 0))
      have hltI : (k : Int) < (m : Int) := by omega
      have hqn : 0 ≤ Z / wor k := Int.ediv_nonneg z0 (by omega)
      have hqm : Z / wor k ≤ 2000000000000 := Int.le_trans (Int.ediv_le_self _ z0) z1
      have hq : 0 ≤ Z / wor k % 128 ∧ Z / wor k % 128 < 128 := ⟨by omega, by omega⟩
      obtain ⟨hq0, hq1⟩ := hq
      have HG := hide hg
      have HS := hide hst
      have hcl2 : ∃ v, wr.cell? ⟨w.heap.size, k, none⟩ = some v := ⟨_, hcl.trans (List.getElem?_eq_getElem (by have := HL.out; simp; omega))⟩
      obtain ⟨v, hv⟩ := hcl2
      clear hcl hg hst
      by_cases hl : k + 1 < m
      · have hlI : (k : Int) < (m : Int) - 1 := by omega
        go_wp2
        go_roundw
        case rel => exact put_round hlt HL.out (by rw [HG.out]; rw [if_pos hl]) HX.out hown hbel HT.out hgl
        case measure => simp [intOf]; omega
      · have hlI : ¬ (k : Int) < (m : Int) - 1 := by omega
        go_wp2
        go_roundw
        case rel => exact put_round hlt HL.out (by rw [HG.out]; rw [if_neg hl]; simp) HX.out hown hbel HT.out hgl
        case measure => simp [intOf]; omega
    · obtain rfl : k = m := by omega
      have hxs : xs = vd Z := by
        apply List.ext_getElem?
        intro j
        by_cases hj : j < k
        · have h := HX.out j hj
          have hl1 := HL.out
          have hl2 := HM.out
          simp only [List.getD, List.getElem?_eq_getElem (show j < xs.length by omega), List.getElem?_eq_getElem (show j < (vd Z).length by omega), Option.getD_some] at h
          rw [List.getElem?_eq_getElem (show j < xs.length by omega), List.getElem?_eq_getElem (show j < (vd Z).length by omega), h]
        · have hl1 := HL.out
          have hl2 := HM.out
          rw [List.getElem?_eq_none (by omega), List.getElem?_eq_none (by omega)]
      have hcv := conv_own hown (by omega)
      rw [hxs] at hcv
      clear hown hxs
      go_wp2
      go_ret2
      exact ⟨rfl, hbel⟩
end Go.Proofs.YtbcljhafdpnjbabDoor.L1

namespace Go.Proofs.YtbcljhafdpnjbabDoor.L6
open Go.RowKit L1
set_option linter.unusedVariables false

theorem blk_second (w : World) (x y : Obj) : ((w.alloc x).alloc y).heap[w.heap.size + 1]? = some y := by
  have := blk_new (w.alloc x) y
  rw [World.size_alloc] at this
  exact this
theorem blk_first (w : World) (x y : Obj) : ((w.alloc x).alloc y).heap[w.heap.size]? = some x :=
  (((Below.refl (w.alloc x).heap.size _).alloc (Nat.le_refl _) _).block w.heap.size (by simp)).trans (blk_new _ _)
theorem own_nilA (w : World) (base : Nat) : OwC w base (.slice none 0 0) 0 [] := ⟨rfl, World.ownsRow_nil _ _ _ _, fun i hi => absurd hi (Nat.not_lt_zero _), fun i j _ hj => absurd hj (Nat.not_lt_zero _)⟩
theorem retL_none {w w' : World} (hb : Below w.heap.size w w') : RetL w [] 0 false (.returned (.tuple #[.agg #[.slice none 0 0, .int .i64 0], .bool false])) w' := ⟨_, _, rfl, [], rfl, own_nilA _ _, hb⟩

open Classical in
set_option maxRecDepth 100000 in
set_option maxHeartbeats 4000000 in
theorem implAppend_no (a : Option Addr) (L : List Pc) (n cap : Nat) (B : Int) (r : ByteArray) (w : World) (hn : L.length = n) (hm : n ≤ 9223372036854775807) (hs : SlC w a L) (hst : TxC L) (ht : Tab w) (hno : ¬ AppPre L B r) :
    Calls Tryd.prog 6 #[.agg #[.slice a n cap, .int .i64 B], .string r] w (RetL w [] 0 false) := by
  obtain ⟨bk, hbk⟩ : ∃ bk : Bool, bk = true ↔ GoodG L B := ⟨decide (GoodG L B), by simp⟩
  have C1 := hide (fun wx (hb : Below w.heap.size w wx) => goodLog_any a L n cap B wx hn hm (hs.below hb) hst (ht.below hb) bk hbk)
  cases bk with
  | false =>
    clear hs hn hst hbk ht hno
    go_enter Tryd.func6, Tryd.ntmps6
    go_wp2_with fail
    refine (C1.out _ (((Below.refl _ _).alloc (Nat.le_refl _) _).alloc (by simp) _)).mono ?_
    rintro e w1 ⟨rfl, hb1⟩
    obtain ⟨z0, z1, z2, z3⟩ := blkp ((hb1.block (w.heap.size + 1) (by simp)).trans (blk_second w _ _))
    have B1 := hide ((((Below.refl w.heap.size w).alloc (Nat.le_refl _) (.cells #[.slice a n cap, .int .i64 B] 25 (0, 0))).alloc (by simp) (.cells #[.slice none 0 0, .int .i64 0] 25 (0, 0))).trans (hb1.mono (by simp; omega)))
    clear hb1
    go_wp2
    refine bodyPost_ret (v := .tuple #[.agg #[.slice none 0 0, .int .i64 0], .bool false]) (by simp [results, Tryd.f6, go_sem, z0, z1]) rfl (retL_none ((B1.out.setCell (p := ⟨_, _, none⟩) (Nat.le_succ _) _).setCell (p := ⟨_, _, none⟩) (Nat.le_succ _) _))
  | true =>
    have hg := hbk.1 rfl
    have hla := hg.logAt hn hs ht
    have C2 := hide (fun wx (hb : Below w.heap.size w wx) => recordsIn_any a L n cap B wx (hla.below hb))
    by_cases hr : (20 : Int) < (r.size : Int)
    · clear hs hn hst hbk ht hno hg hla C2
      go_enter Tryd.func6, Tryd.ntmps6
      go_wp2_with fail
      refine (C1.out _ (((Below.refl _ _).alloc (Nat.le_refl _) _).alloc (by simp) _)).mono ?_
      rintro e w1 ⟨rfl, hb1⟩
      obtain ⟨z0, z1, z2, z3⟩ := blkp ((hb1.block (w.heap.size + 1) (by simp)).trans (blk_second w _ _))
      have B1 := hide ((((Below.refl w.heap.size w).alloc (Nat.le_refl _) (.cells #[.slice a n cap, .int .i64 B] 25 (0, 0))).alloc (by simp) (.cells #[.slice none 0 0, .int .i64 0] 25 (0, 0))).trans (hb1.mono (by simp; omega)))
      clear hb1
      go_wp2
      refine bodyPost_ret (v := .tuple #[.agg #[.slice none 0 0, .int .i64 0], .bool false]) (by simp [results, Tryd.f6, go_sem, z0, z1]) rfl (retL_none ((B1.out.setCell (p := ⟨_, _, none⟩) (Nat.le_succ _) _).setCell (p := ⟨_, _, none⟩) (Nat.le_succ _) _))
    · have h60 : lastEnd L n - (gc L 0).f = 60 := Classical.byContradiction fun h => hno ⟨hg, by omega, by rw [hn]; exact h⟩
      rw [h60] at C2
      clear hs hn hst hbk ht hno hg hla h60
      go_enter Tryd.func6, Tryd.ntmps6
      go_wp2_with fail
      refine (C1.out _ (((Below.refl _ _).alloc (Nat.le_refl _) _).alloc (by simp) _)).mono ?_
      rintro e w1 ⟨rfl, hb1⟩
      have G1 : Hid (w1.heap[w.heap.size + 1]? = some (.cells #[.slice none 0 0, .int .i64 0] 25 (0, 0))) := (hb1.block (w.heap.size + 1) (by simp)).trans (blk_second w _ _)
      obtain ⟨k0, k1, _, _⟩ := blkp ((hb1.block w.heap.size (by simp only [World.size_alloc]; omega)).trans (blk_first w _ _))
      have B1 := hide ((((Below.refl w.heap.size w).alloc (Nat.le_refl _) (.cells #[.slice a n cap, .int .i64 B] 25 (0, 0))).alloc (by simp) (.cells #[.slice none 0 0, .int .i64 0] 25 (0, 0))).trans (hb1.mono (by simp; omega)))
      clear hb1
      go_wp2_with fail
      refine (C2.out _ B1.out).mono ?_
      rintro e w2 ⟨rfl, hb2⟩
      obtain ⟨z0, z1, z2, z3⟩ := blkp ((hb2.block (w.heap.size + 1) (Array.getElem?_eq_some_iff.1 G1.out).1).trans G1.out)
      have B2 := hide (B1.out.trans (hb2.mono B1.out.size))
      clear hb2
      go_wp2
      refine bodyPost_ret (v := .tuple #[.agg #[.slice none 0 0, .int .i64 0], .bool false]) (by simp [results, Tryd.f6, go_sem, z0, z1]) rfl (retL_none ((B2.out.setCell (p := ⟨_, _, none⟩) (Nat.le_succ _) _).setCell (p := ⟨_, _, none⟩) (Nat.le_succ _) _))
end Go.Proofs.YtbcljhafdpnjbabDoor.L6

namespace Go.Proofs.YtbcljhafdpnjbabDoor.L6
open Go.RowKit L1
set_option linter.unusedVariables false

theorem below_d6 {B : Nat} {a w : World} (h : Below B a w) (n : Nat) : Below B a (w.drewN n) := h.trans ⟨rfl, rfl, rfl, Nat.le_refl _, fun _ _ => rfl⟩
set_option maxRecDepth 100000 in
set_option maxHeartbeats 4000000 in
theorem l6Append_long (g : Nat) (L : List Pc) (M : List PV) (n c base : Nat) (B : Int) (r : ByteArray) (w : World) (ho : OwC w base (.slice (some ⟨g, 0, none⟩) n c) n M) (hM : pcs M = L) (hg : GoodG L B) (hbase : base ≤ w.heap.size) (hr : 20 < r.size) (hr2 : r.size ≤ 9223372036854775807) : Calls Tryd.prog 39 #[.agg #[.slice (some ⟨g, 0, none⟩) n c, .int .i64 B], .string r] w fun e w' => e = .returned (.tuple #[.agg #[.slice (some ⟨g, 0, none⟩) n c, .int .i64 B], .bool false]) ∧ Below base w w' := by
  have hn : L.length = n := by rw [← hM]; simp [ho.len]
  have hs : SlC w (some ⟨g, 0, none⟩) L := by rw [← hM]; exact ho.sl
  have hn1 : 1 ≤ n := by have := hg.one; omega
  have hn20 : n ≤ 20 := by have := hg.many; omega
  have hn0I : 0 < n := by omega
  have hml := ho.len
  have hgb := own_ltC ho.row g rfl
  have hfl : (flatC M).length = n * 3 := by rw [flatC_len, hml]
  have gcM : ∀ i, i < n → (M.getD i eV).1 = gc L i := fun i hi => by
    have := pcs_get M i (by omega)
    rw [hM] at this
    exact this.symm
  have d0 : w.cell? ⟨g, 0, none⟩ = some (.int .i64 (gc L 0).f) := by
    have := (ho.row.cellAt (0 * 3) (by omega)).trans (flatC_get M 0 (by omega)).1
    rw [gcM 0 (by omega)] at this
    simpa using this
  have C1 := hide (fun wx (hb : Below w.heap.size w wx) => l6End_good (some ⟨g, 0, none⟩) L n c B wx hn (hs.below hb) hg B)
  have hfb := hg.f0
  have hfb1 := hg.f1
  have hEb : 0 ≤ lastEnd L n ∧ lastEnd L n ≤ 1000060 := by
    have hk := hg.ps (n - 1) (by omega)
    have hb := atg_bd L (n - 1) (fun j hj => (hg.ps j (by omega)).1)
    have h3 := cnt_le (gc L (n - 1)).s
    have h4 := hk.1.1
    unfold lastEnd
    rw [hk.2.1]
    omega
  obtain ⟨E, hE⟩ : ∃ E, E = lastEnd L n := ⟨_, rfl⟩
  obtain ⟨f0, hf0⟩ : ∃ f0, f0 = (gc L 0).f := ⟨_, rfl⟩
  rw [← hE] at C1 hEb
  rw [← hf0] at d0 hfb hfb1
  obtain ⟨W, hW⟩ : ∃ W, (w.alloc (.cells #[.slice (some ⟨g, 0, none⟩) n c, .int .i64 B] 25 (0, 0))).alloc (.cells #[.slice none 0 0, .int .i64 0] 25 (0, 0)) = W := ⟨_, rfl⟩
  have BW : Below w.heap.size w W := by rw [← hW]; exact ((Below.refl _ _).alloc (Nat.le_refl _) _).alloc (by simp) _
  have GB : Hid (W.heap[w.heap.size]? = some (.cells #[.slice (some ⟨g, 0, none⟩) n c, .int .i64 B] 25 (0, 0))) := by show _ = _; rw [← hW]; exact blk_first _ _ _
  have GZ : Hid (W.heap[w.heap.size + 1]? = some (.cells #[.slice none 0 0, .int .i64 0] 25 (0, 0))) := by show _ = _; rw [← hW]; exact blk_second _ _ _
  have hwW : w.heap.size + 1 < W.heap.size := (Array.getElem?_eq_some_iff.1 GZ.out).1
  obtain ⟨o0, o1, _, _⟩ := blkp GB.out
  obtain ⟨z0, z1, z2, z3⟩ := blkp GZ.out
  have dg := (BW.cell (p := ⟨g, 0, none⟩) (blk_lt d0)).trans d0
  have HBW := hide BW
  have HO := hide (ho.below BW)
  have HM := hide hM
  have HN := hide hn
  have HG := hide hg
  have HE := hide hE
  have HF0 := hide hf0
  have HWW := hide hW
  have HGM := hide gcM
  have hr20 : (20 : Int) < (r.size : Int) := by omega
  clear ho hM hn hg hE hf0 hW gcM hs d0 hml hfl BW dg
  go_enter Tryd.func39, Tryd.ntmps39
  go_upto_region 1 with fail
  rw [HWW.out]
  go_quiet (fail)
  go_wp2
  refine bodyPost_ret (v := .tuple #[.agg #[.slice (some ⟨g, 0, none⟩) n c, .int .i64 B], .bool false]) (by simp [results, Tryd.f39, go_sem, z0, z1]) rfl ⟨rfl, ?_⟩
  exact ((below_d6 (HBW.out.mono hbase) _).setCell (p := ⟨_, _, none⟩) (by show base ≤ w.heap.size + 1; omega) _).setCell (p := ⟨_, _, none⟩) (by show base ≤ w.heap.size + 1; omega) _
set_option maxRecDepth 100000 in
set_option maxHeartbeats 4000000 in
theorem l6Append_60 (g : Nat) (L : List Pc) (M : List PV) (n c base : Nat) (B : Int) (r : ByteArray) (w : World) (ho : OwC w base (.slice (some ⟨g, 0, none⟩) n c) n M) (hM : pcs M = L) (hg : GoodG L B) (hbase : base ≤ w.heap.size) (hr : r.size ≤ 20) (h60 : lastEnd L n - (gc L 0).f = 60) : Calls Tryd.prog 39 #[.agg #[.slice (some ⟨g, 0, none⟩) n c, .int .i64 B], .string r] w fun e w' => e = .returned (.tuple #[.agg #[.slice (some ⟨g, 0, none⟩) n c, .int .i64 B], .bool false]) ∧ Below base w w' := by
  have hn : L.length = n := by rw [← hM]; simp [ho.len]
  have hs : SlC w (some ⟨g, 0, none⟩) L := by rw [← hM]; exact ho.sl
  have hn1 : 1 ≤ n := by have := hg.one; omega
  have hn20 : n ≤ 20 := by have := hg.many; omega
  have hn0I : 0 < n := by omega
  have hml := ho.len
  have hgb := own_ltC ho.row g rfl
  have hfl : (flatC M).length = n * 3 := by rw [flatC_len, hml]
  have gcM : ∀ i, i < n → (M.getD i eV).1 = gc L i := fun i hi => by
    have := pcs_get M i (by omega)
    rw [hM] at this
    exact this.symm
  have d0 : w.cell? ⟨g, 0, none⟩ = some (.int .i64 (gc L 0).f) := by
    have := (ho.row.cellAt (0 * 3) (by omega)).trans (flatC_get M 0 (by omega)).1
    rw [gcM 0 (by omega)] at this
    simpa using this
  have C1 := hide (fun wx (hb : Below w.heap.size w wx) => l6End_good (some ⟨g, 0, none⟩) L n c B wx hn (hs.below hb) hg B)
  have hfb := hg.f0
  have hfb1 := hg.f1
  have hEb : 0 ≤ lastEnd L n ∧ lastEnd L n ≤ 1000060 := by
    have hk := hg.ps (n - 1) (by omega)
    have hb := atg_bd L (n - 1) (fun j hj => (hg.ps j (by omega)).1)
    have h3 := cnt_le (gc L (n - 1)).s
    have h4 := hk.1.1
    unfold lastEnd
    rw [hk.2.1]
    omega
  obtain ⟨E, hE⟩ : ∃ E, E = lastEnd L n := ⟨_, rfl⟩
  obtain ⟨f0, hf0⟩ : ∃ f0, f0 = (gc L 0).f := ⟨_, rfl⟩
  rw [← hE] at C1 hEb
  rw [← hf0] at d0 hfb hfb1
  obtain ⟨W, hW⟩ : ∃ W, (w.alloc (.cells #[.slice (some ⟨g, 0, none⟩) n c, .int .i64 B] 25 (0, 0))).alloc (.cells #[.slice none 0 0, .int .i64 0] 25 (0, 0)) = W := ⟨_, rfl⟩
  have BW : Below w.heap.size w W := by rw [← hW]; exact ((Below.refl _ _).alloc (Nat.le_refl _) _).alloc (by simp) _
  have GB : Hid (W.heap[w.heap.size]? = some (.cells #[.slice (some ⟨g, 0, none⟩) n c, .int .i64 B] 25 (0, 0))) := by show _ = _; rw [← hW]; exact blk_first _ _ _
  have GZ : Hid (W.heap[w.heap.size + 1]? = some (.cells #[.slice none 0 0, .int .i64 0] 25 (0, 0))) := by show _ = _; rw [← hW]; exact blk_second _ _ _
  have hwW : w.heap.size + 1 < W.heap.size := (Array.getElem?_eq_some_iff.1 GZ.out).1
  obtain ⟨o0, o1, _, _⟩ := blkp GB.out
  obtain ⟨z0, z1, z2, z3⟩ := blkp GZ.out
  have dg := (BW.cell (p := ⟨g, 0, none⟩) (blk_lt d0)).trans d0
  have HBW := hide BW
  have HO := hide (ho.below BW)
  have HM := hide hM
  have HN := hide hn
  have HG := hide hg
  have HE := hide hE
  have HF0 := hide hf0
  have HWW := hide hW
  have HGM := hide gcM
  have hr20 : ¬ (20 : Int) < (r.size : Int) := by omega
  rw [← hE, ← hf0] at h60
  have hsb : (E - f0 == 60) = true := by simp; omega
  have hwr : IntKind.i64.wrap (E - f0) = E - f0 := wrap6 (by omega) (by omega)
  clear ho hM hn hg hE hf0 hW gcM hs d0 hml hfl BW
  go_enter Tryd.func39, Tryd.ntmps39
  go_upto_region 1 with fail
  rw [HWW.out]
  go_region_held3 (fun wx => (wx.cell? ⟨w.heap.size, 0, none⟩ = some (.slice (some ⟨g, 0, none⟩) n c) ∧ wx.cell? ⟨w.heap.size, 1, none⟩ = some (.int .i64 B) ∧ wx.cell? ⟨g, 0, none⟩ = some (.int .i64 f0)) ∧ Below W.heap.size W wx) (first | exact ⟨⟨o0, o1, dg⟩, (Below.refl _ _).drew⟩ | exact keep3 (by assumption) (by assumption) (Nat.le_refl _)) ((go_at_call 41; refine (C1.out _ (HBW.out.trans (Below.mono (by first | exact And.right (by assumption) | exact (Below.refl _ _).drew | exact Below.refl _ _) HBW.out.size))).mono ?_; rintro e w5 ⟨rfl, hb⟩))
  rename_i hHeld
  have hb5 := hHeld.2
  clear hHeld
  obtain ⟨o0', o1', _, _⟩ := blkp ((hb5.block w.heap.size (by omega)).trans GB.out)
  obtain ⟨z0', z1', z2', z3'⟩ := blkp ((hb5.block (w.heap.size + 1) (by omega)).trans GZ.out)
  have HB5 := hide (HBW.out.trans (hb5.mono HBW.out.size))
  clear hb5 o0 o1 z0 z1 z2 z3 dg
  go_wp2
  refine bodyPost_ret (v := .tuple #[.agg #[.slice (some ⟨g, 0, none⟩) n c, .int .i64 B], .bool false]) (by simp [results, Tryd.f39, go_sem, z0', z1']) rfl ⟨rfl, ?_⟩
  exact ((HB5.out.mono hbase).setCell (p := ⟨_, _, none⟩) (by show base ≤ w.heap.size + 1; omega) _).setCell (p := ⟨_, _, none⟩) (by show base ≤ w.heap.size + 1; omega) _
end Go.Proofs.YtbcljhafdpnjbabDoor.L6
