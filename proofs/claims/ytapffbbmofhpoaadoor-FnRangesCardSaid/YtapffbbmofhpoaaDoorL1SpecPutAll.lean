/-
  Contracts: spec.l1PutAll, spec.PutAll: of at most 60 numbers in -1000000000000..1000000000000 their digits one behind the other, as a text, and true; else the empty text and false.
-/
import Derived.Test.YtapffbbmofhpoaaDoorL1SpecAll
import Derived.Test.YtapffbbmofhpoaaDoorL1Varint
import Derived.Deep.RegionHeld3
namespace Go.Proofs.YtapffbbmofhpoaaDoor.L1
open Go.RowKit
set_option linter.unusedVariables false

set_option maxRecDepth 100000 in
set_option maxHeartbeats 1000000 in
theorem l1PutAll_any (a : Option Addr) (xs : List Int) (n cap : Nat) (w : World) (hn : xs.length = n) (hs : Sl w a xs) (hn2 : n ≤ 60) (hok : OkL xs) :
    Calls Tryd.prog 86 #[.slice a n cap] w fun e w' => e = .returned (.string (strOfNums (cat xs))) ∧ Below w.heap.size w w' := by
  have HS := hide hs
  have HN := hide hn
  have HK := hide hok
  clear hs hn hok
  go_enter Tryd.func86, Tryd.ntmps86
  go_wp2
  go_loopw [3, 8] (fun s i wr => ∃ k : Nat, k ≤ n ∧ i = .int .i64 k ∧ s = .string (strOfNums (cat (xs.take k))) ∧ Below w.heap.size w wr) (fun _ i _ => n - (intOf i).toNat)
  case atStart => exact ⟨0, Nat.zero_le _, rfl, rfl, Below.refl _ _⟩
  case round =>
    obtain ⟨k, hk, rfl, rfl, hbel⟩ := hrel
    by_cases hlt : k < n
    · obtain ⟨b, off, rfl, hc0⟩ := HS.out k (by rw [HN.out]; exact hlt)
      have hc : wr.cell? ⟨b, off + k, none⟩ = some (.int .i64 (xs.getD k 0)) := by
        rw [hbel.cell (p := ⟨b, off + k, none⟩) (blk_lt hc0)]
        exact hc0
      have hx := HK.out k (by rw [HN.out]; exact hlt)
      have hct := cat_take xs k (by rw [HN.out]; exact hlt)
      have hl1 : (strOfNums (cat (xs.take k))).size ≤ 360 := by
        rw [strOfNums_size]
        have := cat_len (xs.take k)
        have h2 : (xs.take k).length ≤ k := List.length_take_le _ _
        omega
      have hl2 : (strOfNums (vd (zig (xs.getD k 0)))).size ≤ 6 := by rw [strOfNums_size]; exact vdf_le 5 _
      have hst : strOfNums (cat (xs.take (k + 1))) = strOfNums (cat (xs.take k)) ++ strOfNums (vd (zig (xs.getD k 0))) := by rw [hct, str_append]
      have hvc := fun w => l1Varint_any (xs.getD k 0) w hx.1 hx.2
      obtain ⟨x, hxe⟩ : ∃ x, x = xs.getD k 0 := ⟨_, rfl⟩
      rw [← hxe] at hc hst hl2 hvc
      obtain ⟨A, hA⟩ : ∃ A, A = strOfNums (cat (xs.take k)) := ⟨_, rfl⟩
      rw [← hA] at hst hl1 ⊢
      obtain ⟨C, hC⟩ : ∃ C, C = strOfNums (vd (zig x)) := ⟨_, rfl⟩
      rw [← hC] at hst hl2 hvc
      have hsum : ¬ 9223372036854775807 < A.size + C.size := by omega
      have hltI : (k : Int) < (n : Int) := by omega
      have HV := hide hvc
      have HST := hide hst
      clear hc0 hx hct hxe hA hC hvc hst
      go_wp2_with (go_at_call 76; refine (unhide HV _).mono ?_; rintro e w1 ⟨rfl, hb1⟩)
      go_roundw
      case rel => exact ⟨k + 1, by omega, by go_num, by rw [HST.out], hbel.trans (Below.mono (by assumption) hbel.size)⟩
      case measure => simp [intOf]; omega
    · have e : xs.take k = xs := List.take_of_length_le (by rw [HN.out]; omega)
      rw [e]
      have hltI : ¬ (k : Int) < (n : Int) := by omega
      clear e
      go_wp2
      go_ret
      exact ⟨rfl, hbel⟩

set_option maxRecDepth 100000 in
set_option maxHeartbeats 1000000 in
theorem specPutAll_yes (a : Option Addr) (xs : List Int) (n cap : Nat) (w : World) (hn : xs.length = n) (hs : Sl w a xs) (hn2 : n ≤ 60) (hok : OkL xs) :
    Calls Tryd.prog 21 #[.slice a n cap] w fun e w' => e = .returned (.tuple #[.string (strOfNums (cat xs)), .bool true]) ∧ Below w.heap.size w w' := by
  have h60 : ¬ 60 < (n : Int) := by omega
  have c1 := hide (fun w hs => l1All_yes a xs n cap w hn hs (by omega) hok)
  have c2 := hide (fun w hs => l1PutAll_any a xs n cap w hn hs hn2 hok)
  have HS := hide hs
  clear hs hn hok
  go_enter Tryd.func21, Tryd.ntmps21
  go_wp2_with (first | (go_at_call 85; refine (unhide c1 _ HS.out).mono ?_; rintro e w1 ⟨rfl, rfl⟩) | (go_at_call 86; refine (unhide c2 _ HS.out).mono ?_; rintro e w1 ⟨rfl, hb1⟩))
  go_ret2
  exact ⟨rfl, by assumption⟩
set_option maxRecDepth 100000 in
set_option maxHeartbeats 1000000 in
theorem specPutAll_no (a : Option Addr) (xs : List Int) (n cap : Nat) (w : World) (hn : xs.length = n) (hs : Sl w a xs) (hn2 : n ≤ 1048576) (hno : ¬ (n ≤ 60 ∧ OkL xs)) :
    Calls Tryd.prog 21 #[.slice a n cap] w fun e w' => e = .returned (.tuple #[.string ⟨#[]⟩, .bool false]) ∧ w = w' := by
  by_cases h60 : 60 < (n : Int)
  · clear hno hs hn
    go_enter Tryd.func21, Tryd.ntmps21
    go_wp2
    go_ret2
    exact ⟨rfl, rfl⟩
  · have c1 := hide (l1All_no a xs n cap w hn hs (by omega) (fun h => hno ⟨by omega, h⟩))
    clear hno hs hn
    go_enter Tryd.func21, Tryd.ntmps21
    go_wp2_with (go_at_call 85; refine (unhide c1).mono ?_; rintro e w1 ⟨rfl, rfl⟩)
    go_ret2
    exact ⟨rfl, rfl⟩
end Go.Proofs.YtapffbbmofhpoaaDoor.L1
