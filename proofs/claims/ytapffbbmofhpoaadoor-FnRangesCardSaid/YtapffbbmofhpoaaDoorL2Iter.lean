/-
  Contracts: the two iterators of chapter 2 (impl.differences, impl.runningSums) hand out the differences of a list's numbers, or their running sums, one by one, whatever the loop's body does that keeps what lay.
-/
import Derived.Test.YtapffbbmofhpoaaDoorL2Math
import Derived.RangeFuncBox
import Derived.RangeFuncNested
import Derived.RangeFuncBound
import Derived.RangeFuncCalls
import Derived.RangeFuncLeaves
import Derived.Shelf.Abstract
import Derived.Shelf.RegionOpen
import Derived.WalkKit
import Derived.OwnWalkIn
import Derived.TacticsInMore
import Derived.LoopNIn
import Derived.LoopIn
import Derived.Maps.AppendAt
namespace Go.Proofs.YtapffbbmofhpoaaDoor.L1
open Go.RowKit Go.Shelf
attribute [local go_sem] Oper.semAt_some
set_option linter.unusedVariables false

theorem pre_of_take (l : List Int) (k : Nat) : l.take k <+: l := List.take_prefix k l

set_option maxRecDepth 100000 in
set_option maxHeartbeats 2000000 in
theorem diff1_in (F : Fence) (n : Nat) (hf : F.fn 136) (hro : F.round = none) (hn : 1 ≤ n) (l Bs n₀ len cap : Nat) (a : Option Addr) (xs : List Int) (hlen : xs.length = len) (h40 : len ≤ 40) (hok : OkL xs) (J Jx : List Int → World → Prop)
    (hY : ∀ pre x W, J pre W → pre.length < len → YieldAt F (n - 1) Tryd.prog l #[.int .i64 x] W fun e W' =>
      (e = .returned (.bool true) ∧ J (pre ++ [x]) W' ∧ Below n₀ W W') ∨ (e = .returned (.bool false) ∧ Jx (pre ++ [x]) W'))
    (W : World) (hBs : W.cell? ⟨Bs, 0, none⟩ = some (.slice a len cap)) (hs : ∀ i, i < len → ∃ b off, a = some ⟨b, off, none⟩ ∧ b < n₀ ∧ W.cell? ⟨b, off + i, none⟩ = some (.int .i64 (xs.getD i 0))) (h0 : J [] W) :
    CallsIn F n Tryd.prog 136 #[.func (.yield l) #[] #[], .pointer (some ⟨Bs, 0, none⟩)] W fun e W' => (∃ v, e = .returned v) ∧
      ((∃ ys, ys = dl 0 xs ∧ J ys W') ∨ (∃ pre, pre <+: dl 0 xs ∧ Jx pre W')) := by
  have HK := hide hok
  have HL := hide hlen
  have HS := hide hs
  clear hok hlen hs
  refine callsIn_of_wp Tryd.func136 rfl hf ?_ hro
  simp only [Tryd.ntmps136, List.size_toArray, List.length_cons, List.length_nil, Nat.reduceAdd, Nat.reduceSub, Array.replicate_succ, Array.replicate_zero, List.push_toArray, List.append_toArray, List.nil_append, List.cons_append]
  gi_wp2
  gi_loopw [3, 8] (fun p i wr => ∃ k : Nat, k ≤ len ∧ i = .int .i64 k ∧ p = .int .i64 ((0 :: xs).getD k 0) ∧ J ((dl 0 xs).take k) wr ∧ Below n₀ W wr)
    (fun _ i _ => len - (intOf i).toNat)
  case atStart => exact ⟨0, Nat.zero_le _, rfl, rfl, h0, Below.refl _ _⟩
  case round =>
    obtain ⟨k, hk, rfl, rfl, hJs, hnx⟩ := hrel
    by_cases hlt : k < len
    · obtain ⟨b, off, rfl, hb, hc0⟩ := HS.out k hlt
      have hc : wr.cell? ⟨b, off + k, none⟩ = some (.int .i64 (xs.getD k 0)) := (hnx.cell (p := ⟨b, off + k, none⟩) hb).trans hc0
      have hd := dl_get xs 0 k (by rw [HL.out]; exact hlt)
      have hx1 := HK.out k (by rw [HL.out]; exact hlt)
      have hx2 : -1000000000000 ≤ (0 :: xs).getD k 0 ∧ (0 :: xs).getD k 0 ≤ 1000000000000 := by
        cases k with
        | zero => simp
        | succ k => rw [List.getD_cons_succ]; exact HK.out k (by rw [HL.out]; omega)
      have hnext : (0 :: xs).getD (k + 1) 0 = xs.getD k 0 := List.getD_cons_succ
      have htk := ltake_snoc (dl 0 xs) k (by rw [dl_len, HL.out]; exact hlt)
      have hpl : ((dl 0 xs).take k).length < len := by simp [dl_len]; have := HL.out; omega
      have hpre := pre_of_take (dl 0 xs) (k + 1)
      obtain ⟨x, hx⟩ : ∃ x, x = xs.getD k 0 := ⟨_, rfl⟩
      obtain ⟨p, hp⟩ : ∃ p, p = (0 :: xs).getD k 0 := ⟨_, rfl⟩
      rw [← hx] at hc hd hx1 hnext
      rw [← hp] at hd hx2 ⊢
      rw [hd] at htk
      rw [htk] at hpre
      have HTK := hide htk
      have HPRE := hide hpre
      have HNX := hide hnext
      obtain ⟨fn, tmps, assign, body, hy, hR⟩ := hY _ (x - p) wr hJs hpl
      have hltI : (k : Int) < (len : Int) := by omega
      obtain ⟨hx1a, hx1b⟩ := hx1
      obtain ⟨hx2a, hx2b⟩ := hx2
      clear hd htk hnext hpre hc0 hx hp
      gi_wp2
      refine hR.mono ?_
      rintro e W3 (⟨rfl, hJ3, hk3⟩ | ⟨rfl, hJx3⟩)
      · gi_wp2
        go_roundw
        case rel => exact ⟨k + 1, by omega, by simp, by rw [HNX.out], by rw [HTK.out]; exact hJ3, hnx.trans hk3⟩
        case measure => simp [intOf]; omega
      · gi_wp2
        refine bodyPost_ret (results_none rfl _ _ _) rfl ?_
        exact ⟨⟨_, rfl⟩, .inr ⟨_, HPRE.out, hJx3⟩⟩
    · obtain rfl : k = len := by omega
      have e : (dl 0 xs).take k = dl 0 xs := List.take_of_length_le (by rw [dl_len, HL.out]; omega)
      rw [e] at hJs
      have hltI : ¬ (k : Int) < (k : Int) := by omega
      clear e
      gi_wp2
      go_end0
      exact ⟨⟨_, rfl⟩, .inl hJs⟩
set_option maxRecDepth 100000 in
set_option maxHeartbeats 2000000 in
theorem sums1_in (F : Fence) (n : Nat) (hf : F.fn 137) (hro : F.round = none) (hn : 1 ≤ n) (l Bs n₀ len cap : Nat) (a : Option Addr) (xs : List Int) (hlen : xs.length = len) (h40 : len ≤ 40) (hok : OkL xs) (J Jx : List Int → World → Prop)
    (hY : ∀ pre x W, J pre W → pre.length < len → YieldAt F (n - 1) Tryd.prog l #[.int .i64 x] W fun e W' =>
      (e = .returned (.bool true) ∧ J (pre ++ [x]) W' ∧ Below n₀ W W') ∨ (e = .returned (.bool false) ∧ Jx (pre ++ [x]) W'))
    (W : World) (hBs : W.cell? ⟨Bs, 0, none⟩ = some (.slice a len cap)) (hs : ∀ i, i < len → ∃ b off, a = some ⟨b, off, none⟩ ∧ b < n₀ ∧ W.cell? ⟨b, off + i, none⟩ = some (.int .i64 (xs.getD i 0))) (h0 : J [] W) :
    CallsIn F n Tryd.prog 137 #[.func (.yield l) #[] #[], .pointer (some ⟨Bs, 0, none⟩)] W fun e W' => (∃ v, e = .returned v) ∧
      ((∃ ys, ys = sm 0 xs ∧ J ys W') ∨ (∃ pre, pre <+: sm 0 xs ∧ Jx pre W')) := by
  have HK := hide hok
  have HL := hide hlen
  have HS := hide hs
  clear hok hlen hs
  refine callsIn_of_wp Tryd.func137 rfl hf ?_ hro
  simp only [Tryd.ntmps137, List.size_toArray, List.length_cons, List.length_nil, Nat.reduceAdd, Nat.reduceSub, Array.replicate_succ, Array.replicate_zero, List.push_toArray, List.append_toArray, List.nil_append, List.cons_append]
  gi_wp2
  gi_loopw [3, 8] (fun p i wr => ∃ k : Nat, k ≤ len ∧ i = .int .i64 k ∧ p = .int .i64 ((0 :: sm 0 xs).getD k 0) ∧ J ((sm 0 xs).take k) wr ∧ Below n₀ W wr)
    (fun _ i _ => len - (intOf i).toNat)
  case atStart => exact ⟨0, Nat.zero_le _, rfl, rfl, h0, Below.refl _ _⟩
  case round =>
    obtain ⟨k, hk, rfl, rfl, hJs, hnx⟩ := hrel
    by_cases hlt : k < len
    · obtain ⟨b, off, rfl, hb, hc0⟩ := HS.out k hlt
      have hc : wr.cell? ⟨b, off + k, none⟩ = some (.int .i64 (xs.getD k 0)) := (hnx.cell (p := ⟨b, off + k, none⟩) hb).trans hc0
      have hd := sm_get xs 0 k (by rw [HL.out]; exact hlt)
      have hx1 := HK.out k (by rw [HL.out]; exact hlt)
      have hx2 := sm_bd HK.out k (by rw [HL.out]; omega)
      have hnext : (0 :: sm 0 xs).getD (k + 1) 0 = (sm 0 xs).getD k 0 := List.getD_cons_succ
      have htk := ltake_snoc (sm 0 xs) k (by rw [sm_len, HL.out]; exact hlt)
      have hpl : ((sm 0 xs).take k).length < len := by simp [sm_len]; have := HL.out; omega
      have hpre := pre_of_take (sm 0 xs) (k + 1)
      obtain ⟨x, hx⟩ : ∃ x, x = xs.getD k 0 := ⟨_, rfl⟩
      obtain ⟨p, hp⟩ : ∃ p, p = (0 :: sm 0 xs).getD k 0 := ⟨_, rfl⟩
      rw [← hx] at hc hd hx1
      rw [← hp] at hd hx2 ⊢
      rw [hd] at htk hnext
      rw [htk] at hpre
      have HTK := hide htk
      have HPRE := hide hpre
      have HNX := hide hnext
      obtain ⟨fn, tmps, assign, body, hy, hR⟩ := hY _ (p + x) wr hJs hpl
      have hltI : (k : Int) < (len : Int) := by omega
      obtain ⟨hx1a, hx1b⟩ := hx1
      obtain ⟨hx2a, hx2b⟩ := hx2
      clear hd htk hnext hpre hc0 hx hp
      gi_wp2
      refine hR.mono ?_
      rintro e W3 (⟨rfl, hJ3, hk3⟩ | ⟨rfl, hJx3⟩)
      · gi_wp2
        go_roundw
        case rel => exact ⟨k + 1, by omega, by simp, by rw [HNX.out], by rw [HTK.out]; exact hJ3, hnx.trans hk3⟩
        case measure => simp [intOf]; omega
      · gi_wp2
        refine bodyPost_ret (results_none rfl _ _ _) rfl ?_
        exact ⟨⟨_, rfl⟩, .inr ⟨_, HPRE.out, hJx3⟩⟩
    · obtain rfl : k = len := by omega
      have e : (sm 0 xs).take k = sm 0 xs := List.take_of_length_le (by rw [sm_len, HL.out]; omega)
      rw [e] at hJs
      have hltI : ¬ (k : Int) < (k : Int) := by omega
      clear e
      gi_wp2
      go_end0
      exact ⟨⟨_, rfl⟩, .inl hJs⟩

set_option maxHeartbeats 1000000 in
theorem differences_in (F : Fence) (n : Nat) (hf : F.fn 107) (hro : F.round = none) (a : Option Addr) (len cap : Nat) (w : World) :
    CallsIn F n Tryd.prog 107 #[.slice a len cap] w fun e w' => e = .returned (.func (.func 136) #[] #[.pointer (some ⟨w.heap.size, 0, none⟩)]) ∧ w' = w.alloc (.cells #[.slice a len cap] 32) := by
  refine callsIn_of_wp Tryd.func107 rfl hf ?_ hro
  simp only [Tryd.ntmps107, List.size_toArray, List.length_cons, List.length_nil, Nat.reduceAdd, Nat.reduceSub, Array.replicate_succ, Array.replicate_zero, List.push_toArray, List.append_toArray, List.nil_append, List.cons_append]
  gi_wp2
  go_ret
  exact ⟨rfl, rfl⟩

theorem differences_stops (F : Fence) (n : Nat) (hf : F.fn 136) (hro : F.round = none) (hn : 1 ≤ n) (Bs n₀ len cap : Nat) (a : Option Addr) (xs : List Int) (hlen : xs.length = len) (h40 : len ≤ 40) (hok : OkL xs) (w : World) (hBs : Bs < w.heap.size) (hn₀ : n₀ ≤ w.heap.size)
    (hc : w.cell? ⟨Bs, 0, none⟩ = some (.slice a len cap)) (hs : ∀ i, i < len → ∃ b off, a = some ⟨b, off, none⟩ ∧ b < n₀ ∧ w.cell? ⟨b, off + i, none⟩ = some (.int .i64 (xs.getD i 0))) :
    SeqStopsK F n Tryd.prog 136 #[.pointer (some ⟨Bs, 0, none⟩)] (fun x : Int => #[Value.int .i64 x]) (Below n₀) (fun ys => ys = dl 0 xs) (fun pre => pre <+: dl 0 xs) len w := fun l J Jx W hW _ _ hY h0 =>
  diff1_in F n hf hro hn l Bs n₀ len cap a xs hlen h40 hok J Jx hY W ((hW.cell (p := ⟨Bs, 0, none⟩) hBs).trans hc) (fun i hi => by
    obtain ⟨b, off, ha, hb, h⟩ := hs i hi
    exact ⟨b, off, ha, hb, (hW.cell (p := ⟨b, off + i, none⟩) (Nat.lt_of_lt_of_le hb hn₀)).trans h⟩) h0

set_option maxHeartbeats 1000000 in
theorem runningSums_in (F : Fence) (n : Nat) (hf : F.fn 110) (hro : F.round = none) (a : Option Addr) (len cap : Nat) (w : World) :
    CallsIn F n Tryd.prog 110 #[.slice a len cap] w fun e w' => e = .returned (.func (.func 137) #[] #[.pointer (some ⟨w.heap.size, 0, none⟩)]) ∧ w' = w.alloc (.cells #[.slice a len cap] 32) := by
  refine callsIn_of_wp Tryd.func110 rfl hf ?_ hro
  simp only [Tryd.ntmps110, List.size_toArray, List.length_cons, List.length_nil, Nat.reduceAdd, Nat.reduceSub, Array.replicate_succ, Array.replicate_zero, List.push_toArray, List.append_toArray, List.nil_append, List.cons_append]
  gi_wp2
  go_ret
  exact ⟨rfl, rfl⟩

theorem runningSums_stops (F : Fence) (n : Nat) (hf : F.fn 137) (hro : F.round = none) (hn : 1 ≤ n) (Bs n₀ len cap : Nat) (a : Option Addr) (xs : List Int) (hlen : xs.length = len) (h40 : len ≤ 40) (hok : OkL xs) (w : World) (hBs : Bs < w.heap.size) (hn₀ : n₀ ≤ w.heap.size)
    (hc : w.cell? ⟨Bs, 0, none⟩ = some (.slice a len cap)) (hs : ∀ i, i < len → ∃ b off, a = some ⟨b, off, none⟩ ∧ b < n₀ ∧ w.cell? ⟨b, off + i, none⟩ = some (.int .i64 (xs.getD i 0))) :
    SeqStopsK F n Tryd.prog 137 #[.pointer (some ⟨Bs, 0, none⟩)] (fun x : Int => #[Value.int .i64 x]) (Below n₀) (fun ys => ys = sm 0 xs) (fun pre => pre <+: sm 0 xs) len w := fun l J Jx W hW _ _ hY h0 =>
  sums1_in F n hf hro hn l Bs n₀ len cap a xs hlen h40 hok J Jx hY W ((hW.cell (p := ⟨Bs, 0, none⟩) hBs).trans hc) (fun i hi => by
    obtain ⟨b, off, ha, hb, h⟩ := hs i hi
    exact ⟨b, off, ha, hb, (hW.cell (p := ⟨b, off + i, none⟩) (Nat.lt_of_lt_of_le hb hn₀)).trans h⟩) h0
end Go.Proofs.YtapffbbmofhpoaaDoor.L1
