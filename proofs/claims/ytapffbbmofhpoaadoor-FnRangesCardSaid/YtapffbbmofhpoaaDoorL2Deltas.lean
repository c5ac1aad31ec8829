/-
  Contracts: impl.DeltasOf and impl.SumsOf: of at most 40 numbers in -1000000000000..1000000000000 the differences, or the running sums, in new memory, and true, where all told are in these bounds; else no list and false.
-/
import Derived.Test.YtapffbbmofhpoaaDoorL2Collect
import Derived.Deep.QuietTactic
import Derived.BigQuiet
namespace Go.Proofs.YtapffbbmofhpoaaDoor.L1
open Go.RowKit
set_option linter.unusedVariables false

set_option maxRecDepth 100000 in
set_option maxHeartbeats 1000000 in
theorem goodNumbers_yes (a : Option Addr) (xs : List Int) (n cap : Nat) (w : World) (hn : xs.length = n) (hs : Sl w a xs) (hn2 : n ≤ 40) (hok : OkL xs) :
    Calls Tryd.prog 105 #[.slice a n cap] w fun e w' => e = .returned (.bool true) ∧ w = w' := by
  have HS := hide hs
  have HN := hide hn
  have HK := hide hok
  have h40 : ¬ 40 < (n : Int) := by omega
  clear hs hn hok
  go_enter Tryd.func105, Tryd.ntmps105
  go_wp2
  go_loop [10] (fun i => ∃ k : Nat, k ≤ n ∧ i = .int .i64 k) (fun i => n - (intOf i).toNat)
  case atStart => exact ⟨0, Nat.zero_le _, rfl⟩
  case round =>
    obtain ⟨k, hk, rfl⟩ := hrel
    by_cases hlt : k < n
    · obtain ⟨b, off, rfl, hc⟩ := HS.out k (by rw [HN.out]; exact hlt)
      have hx := HK.out k (by rw [HN.out]; exact hlt)
      obtain ⟨x, hxe⟩ : ∃ x, x = xs.getD k 0 := ⟨_, rfl⟩
      rw [← hxe] at hc hx
      have hc2 := fun w => callsIn_wide.1 (isNumber_yes Fence.wide 1 trivial rfl x w hx.1 hx.2)
      have HC := hide hc2
      have hltI : (k : Int) < (n : Int) := by omega
      clear hxe hx hc2
      go_wp2_with fail
      refine (HC.out _).mono ?_
      rintro e w1 ⟨rfl, rfl⟩
      go_wp2
      go_round
      case rel => exact ⟨k + 1, by omega, by go_num⟩
      case measure => simp [intOf]; omega
    · have hltI : ¬ (k : Int) < (n : Int) := by omega
      go_wp2
      go_ret
      exact ⟨rfl, rfl⟩

set_option maxRecDepth 100000 in
set_option maxHeartbeats 1000000 in
theorem goodNumbers_no (a : Option Addr) (xs : List Int) (n cap : Nat) (w : World) (hn : xs.length = n) (hs : Sl w a xs) (hn2 : n ≤ 1048576) (hno : ¬ (n ≤ 40 ∧ OkL xs)) :
    Calls Tryd.prog 105 #[.slice a n cap] w fun e w' => e = .returned (.bool false) ∧ w = w' := by
  by_cases h40 : 40 < (n : Int)
  · clear hs hn hno
    go_enter Tryd.func105, Tryd.ntmps105
    go_wp2
    go_ret
    exact ⟨rfl, rfl⟩
  have HS := hide hs
  have HN := hide hn
  have HK := hide (fun h => hno ⟨by omega, h⟩)
  clear hs hn hno
  go_enter Tryd.func105, Tryd.ntmps105
  go_wp2
  go_loop [10] (fun i => ∃ k : Nat, k ≤ n ∧ i = .int .i64 k ∧ Hid (∀ j, j < k → -1000000000000 ≤ xs.getD j 0 ∧ xs.getD j 0 ≤ 1000000000000)) (fun i => n - (intOf i).toNat)
  case atStart => exact ⟨0, Nat.zero_le _, rfl, fun j hj => absurd hj (Nat.not_lt_zero _)⟩
  case round =>
    obtain ⟨k, hk, rfl, HJ⟩ := hrel
    by_cases hlt : k < n
    · obtain ⟨b, off, rfl, hc⟩ := HS.out k (by rw [HN.out]; exact hlt)
      have hnext : -1000000000000 ≤ xs.getD k 0 ∧ xs.getD k 0 ≤ 1000000000000 → ∀ j, j < k + 1 → -1000000000000 ≤ xs.getD j 0 ∧ xs.getD j 0 ≤ 1000000000000 := fun h1 j hj => by
        by_cases e : j = k
        · subst e; exact h1
        · exact HJ.out j (by omega)
      obtain ⟨x, hxe⟩ : ∃ x, x = xs.getD k 0 := ⟨_, rfl⟩
      rw [← hxe] at hc hnext
      have hltI : (k : Int) < (n : Int) := by omega
      have HX := hide hnext
      clear hxe hnext
      by_cases hx : -1000000000000 ≤ x ∧ x ≤ 1000000000000
      · have hc2 := fun w => callsIn_wide.1 (isNumber_yes Fence.wide 1 trivial rfl x w hx.1 hx.2)
        have HC := hide hc2
        have HXX := hide hx
        clear hc2 hx
        go_wp2_with fail
        refine (HC.out _).mono ?_
        rintro e w1 ⟨rfl, rfl⟩
        go_wp2
        go_round
        case rel => exact ⟨k + 1, by omega, by go_num, HX.out HXX.out⟩
        case measure => simp [intOf]; omega
      · have hc2 := fun w => callsIn_wide.1 (isNumber_no Fence.wide 1 trivial rfl x w hx)
        have HC := hide hc2
        clear hc2 hx
        go_wp2_with fail
        refine (HC.out _).mono ?_
        rintro e w1 ⟨rfl, rfl⟩
        go_wp2
        go_ret
        exact ⟨rfl, rfl⟩
    · exfalso
      exact HK.out (fun j hj => HJ.out j (by rw [HN.out] at hj; omega))

theorem own_base {w : World} {b c n size : Nat} {e : TypeId} {v : Value} {xs : List Value} (h : w.ownsRow c e size v n xs) (hbc : b ≤ c) : w.ownsRow b e size v n xs := by
  refine ⟨h.1, ?_⟩
  rcases h.2 with h0 | ⟨g, cap, cur, hv, hg, r⟩
  · exact .inl h0
  · exact .inr ⟨g, cap, cur, hv, Nat.le_trans hbc hg, r⟩

theorem dRes_of {xs : List Int} (h40 : xs.length ≤ 40) (h : OkL xs) : okRes (dl 0 xs) = dRes xs := by
  unfold okRes dRes
  by_cases hd : OkL (dl 0 xs)
  · rw [if_pos hd, if_pos ⟨h40, h, hd⟩]
  · rw [if_neg hd, if_neg (fun hh => hd hh.2.2)]
theorem dRes_none {xs : List Int} (h : ¬ (xs.length ≤ 40 ∧ OkL xs)) : dRes xs = none := by
  unfold dRes
  rw [if_neg (fun hh => h ⟨hh.1, hh.2.1⟩)]

set_option maxRecDepth 100000 in
set_option maxHeartbeats 1000000 in
theorem deltasOf_any (a : Option Addr) (xs : List Int) (n cap : Nat) (w : World) (hn : xs.length = n) (hs : Sl w a xs) (hn2 : n ≤ 1048576) :
    Calls Tryd.prog 46 #[.slice a n cap] w fun e w' => RetL w (dRes xs) e w' := by
  by_cases hok : n ≤ 40 ∧ OkL xs
  · have c1 := goodNumbers_yes a xs n cap w hn hs hok.1 hok.2
    have c2 := callsIn_wide.1 (differences_in Fence.wide 1 trivial rfl a n cap w)
    have e := dRes_of (by omega) hok.2
    have c3 : Calls Tryd.prog 106 #[.func (.func 136) #[] #[.pointer (some ⟨w.heap.size, 0, none⟩)]] (w.alloc (.cells #[.slice a n cap] 32)) fun e w' => RetL (w.alloc (.cells #[.slice a n cap] 32)) (dRes xs) e w' := by
      rw [← e]
      refine callsIn_wide.1 (collect_in Fence.wide 3 trivial trivial rfl (by omega) trivial (enters_of Tryd.func136 (by kernel_rfl) rfl) (dl 0 xs) (by rw [dl_len]; omega) _ (fun w0 hw0 => ?_))
      have hb := Boxed.new w 32 (.slice a n cap)
      have hlt : w.heap.size < (w.alloc (.cells #[.slice a n cap] 32)).heap.size := by simp
      rw [dl_len, hn]
      refine differences_stops Fence.wide 2 trivial rfl (by omega) w.heap.size _ n cap a xs hn hok.1 hok.2 w0 (Nat.lt_of_lt_of_le hlt hw0.size) hw0.size ((hw0.cell (p := ⟨w.heap.size, 0, none⟩) hlt).trans hb.cell) (fun i hi => ?_)
      obtain ⟨b, off, ha, hc⟩ := hs i (by omega)
      have hbl := blk_lt hc
      refine ⟨b, off, ha, by simp; omega, ?_⟩
      rw [hw0.cell (p := ⟨b, off + i, none⟩) (by simp; omega)]
      exact (((Below.refl w.heap.size w).alloc (Nat.le_refl _) (.cells #[.slice a n cap] 32)).cell (p := ⟨b, off + i, none⟩) hbl).trans hc
    have C1 := hide c1
    have C2 := hide c2
    have C3 := hide c3
    have hb0 : Below w.heap.size w (w.alloc (.cells #[.slice a n cap] 32)) := (Below.refl _ w).alloc (Nat.le_refl _) _
    clear c1 c2 c3 hok hs hn e
    go_enter Tryd.func46, Tryd.ntmps46
    go_wp2_with fail
    refine C1.out.mono ?_
    rintro e w1 ⟨rfl, rfl⟩
    go_wp2_with fail
    refine C2.out.mono ?_
    rintro e w1 ⟨rfl, rfl⟩
    go_wp2_with fail
    refine C3.out.mono ?_
    rintro e w1 ⟨v, rfl, ho, hb1⟩
    obtain ⟨va, vcap, rfl, _, _⟩ := own_form ho
    have HO := hide (own_base ho (by simp : w.heap.size ≤ (w.alloc (.cells #[.slice a n cap] 32)).heap.size))
    have HB := hide (hb0.trans (hb1.mono (by simp)))
    clear ho hb1
    go_wp2
    go_ret2
    exact ⟨_, rfl, HO.out, HB.out⟩
  · have c1 := goodNumbers_no a xs n cap w hn hs hn2 hok
    have e := dRes_none (xs := xs) (by rw [hn]; exact hok)
    have C1 := hide c1
    have E := hide e
    clear c1 hok hs hn e
    go_enter Tryd.func46, Tryd.ntmps46
    go_wp2_with fail
    refine C1.out.mono ?_
    rintro e w1 ⟨rfl, rfl⟩
    go_wp2
    go_ret2
    exact ⟨_, by rw [E.out]; rfl, by rw [E.out]; exact World.ownsRow_nil _ _ _ _, Below.refl _ _⟩

theorem sRes_of {xs : List Int} (h40 : xs.length ≤ 40) (h : OkL xs) : okRes (sm 0 xs) = sRes xs := by
  unfold okRes sRes
  by_cases hd : OkL (sm 0 xs)
  · rw [if_pos hd, if_pos ⟨h40, h, hd⟩]
  · rw [if_neg hd, if_neg (fun hh => hd hh.2.2)]
theorem sRes_none {xs : List Int} (h : ¬ (xs.length ≤ 40 ∧ OkL xs)) : sRes xs = none := by
  unfold sRes
  rw [if_neg (fun hh => h ⟨hh.1, hh.2.1⟩)]

set_option maxRecDepth 100000 in
set_option maxHeartbeats 1000000 in
theorem sumsOf_any (a : Option Addr) (xs : List Int) (n cap : Nat) (w : World) (hn : xs.length = n) (hs : Sl w a xs) (hn2 : n ≤ 1048576) :
    Calls Tryd.prog 48 #[.slice a n cap] w fun e w' => RetL w (sRes xs) e w' := by
  by_cases hok : n ≤ 40 ∧ OkL xs
  · have c1 := goodNumbers_yes a xs n cap w hn hs hok.1 hok.2
    have c2 := callsIn_wide.1 (runningSums_in Fence.wide 1 trivial rfl a n cap w)
    have e := sRes_of (by omega) hok.2
    have c3 : Calls Tryd.prog 106 #[.func (.func 137) #[] #[.pointer (some ⟨w.heap.size, 0, none⟩)]] (w.alloc (.cells #[.slice a n cap] 32)) fun e w' => RetL (w.alloc (.cells #[.slice a n cap] 32)) (sRes xs) e w' := by
      rw [← e]
      refine callsIn_wide.1 (collect_in Fence.wide 3 trivial trivial rfl (by omega) trivial (enters_of Tryd.func137 (by kernel_rfl) rfl) (sm 0 xs) (by rw [sm_len]; omega) _ (fun w0 hw0 => ?_))
      have hb := Boxed.new w 32 (.slice a n cap)
      have hlt : w.heap.size < (w.alloc (.cells #[.slice a n cap] 32)).heap.size := by simp
      rw [sm_len, hn]
      refine runningSums_stops Fence.wide 2 trivial rfl (by omega) w.heap.size _ n cap a xs hn hok.1 hok.2 w0 (Nat.lt_of_lt_of_le hlt hw0.size) hw0.size ((hw0.cell (p := ⟨w.heap.size, 0, none⟩) hlt).trans hb.cell) (fun i hi => ?_)
      obtain ⟨b, off, ha, hc⟩ := hs i (by omega)
      have hbl := blk_lt hc
      refine ⟨b, off, ha, by simp; omega, ?_⟩
      rw [hw0.cell (p := ⟨b, off + i, none⟩) (by simp; omega)]
      exact (((Below.refl w.heap.size w).alloc (Nat.le_refl _) (.cells #[.slice a n cap] 32)).cell (p := ⟨b, off + i, none⟩) hbl).trans hc
    have C1 := hide c1
    have C2 := hide c2
    have C3 := hide c3
    have hb0 : Below w.heap.size w (w.alloc (.cells #[.slice a n cap] 32)) := (Below.refl _ w).alloc (Nat.le_refl _) _
    clear c1 c2 c3 hok hs hn e
    go_enter Tryd.func48, Tryd.ntmps48
    go_wp2_with fail
    refine C1.out.mono ?_
    rintro e w1 ⟨rfl, rfl⟩
    go_wp2_with fail
    refine C2.out.mono ?_
    rintro e w1 ⟨rfl, rfl⟩
    go_wp2_with fail
    refine C3.out.mono ?_
    rintro e w1 ⟨v, rfl, ho, hb1⟩
    obtain ⟨va, vcap, rfl, _, _⟩ := own_form ho
    have HO := hide (own_base ho (by simp : w.heap.size ≤ (w.alloc (.cells #[.slice a n cap] 32)).heap.size))
    have HB := hide (hb0.trans (hb1.mono (by simp)))
    clear ho hb1
    go_wp2
    go_ret2
    exact ⟨_, rfl, HO.out, HB.out⟩
  · have c1 := goodNumbers_no a xs n cap w hn hs hn2 hok
    have e := sRes_none (xs := xs) (by rw [hn]; exact hok)
    have C1 := hide c1
    have E := hide e
    clear c1 hok hs hn e
    go_enter Tryd.func48, Tryd.ntmps48
    go_wp2_with fail
    refine C1.out.mono ?_
    rintro e w1 ⟨rfl, rfl⟩
    go_wp2
    go_ret2
    exact ⟨_, by rw [E.out]; rfl, by rw [E.out]; exact World.ownsRow_nil _ _ _ _, Below.refl _ _⟩
end Go.Proofs.YtapffbbmofhpoaaDoor.L1
