/-
  Contracts: a rising set's chosen, meet and without; spec.l1Has, spec.l4Those: those of a list that another one has, or has not, in new memory.
-/
import Derived.Test.YthicdnkngpiccabL4Leap
namespace Go.Proofs.Ythicdnkngpiccab.L4
open Go.RowKit L1
set_option linter.unusedVariables false

/-- A list of ints in memory, and the room that its slice has. -/
structure SlC (w : World) (a : Option Addr) (n cap : Nat) (xs : List Int) : Prop where
  sl : Sl w a xs
  le : n ≤ cap
  max : cap ≤ maxLen
  nil : a = none → cap = 0
theorem SlC.below {w w' : World} {a : Option Addr} {n cap : Nat} {xs : List Int} (h : SlC w a n cap xs) (hb : Below w.heap.size w w') : SlC w' a n cap xs := ⟨h.sl.below hb, h.le, h.max, h.nil⟩
theorem own_slC {w : World} {base n cap : Nat} {a : Option Addr} {xs : List Int} (h : w.ownsRow base 3 1 (.slice a n cap) n (xs.map (Value.int .i64))) : SlC w a n cap xs := by
  refine ⟨own_slI h, ?_, ?_, ?_⟩ <;> rcases h.2 with ⟨hv, h0⟩ | ⟨g, cap', cur, hv, _, _, hc, hm, _⟩
  · omega
  · cases hv; exact hc
  · cases hv; unfold maxLen; omega
  · cases hv; exact hm
  · cases hv; exact fun _ => rfl
  · cases hv; exact fun e => by cases e
theorem own_formC {w : World} {base n : Nat} {v : Value} {xs : List Int} (h : w.ownsRow base 3 1 v n (xs.map (Value.int .i64))) : ∃ a cap, v = .slice a n cap ∧ SlC w a n cap xs ∧ xs.length = n := by
  obtain ⟨a, cap, rfl, _, hl⟩ := own_form h
  exact ⟨a, cap, rfl, own_slC h, hl⟩
theorem slC_base {w w' : World} {a : Option Addr} {n cap : Nat} {xs : List Int} {base : Nat} (h : SlC w a n cap xs) (hb : Below base w w') (hlt : ∀ x, a = some x → x.block < base) : SlC w' a n cap xs := ⟨sl_baseI h.sl hb hlt, h.le, h.max, h.nil⟩
/-- A new list of ints that a call hands back. -/
def RetN (w : World) (xs : List Int) (e : Ending) (w' : World) : Prop := ∃ v, e = .returned v ∧ w'.ownsRow w.heap.size 3 1 v xs.length (xs.map (Value.int .i64)) ∧ Below w.heap.size w w'
set_option maxRecDepth 100000 in
set_option maxHeartbeats 1000000 in
theorem l1Has_any (a : Option Addr) (xs : List Int) (n cap : Nat) (o : Int) (w : World) (hn : xs.length = n) (hs : Sl w a xs) (hn2 : n ≤ 1048576) (bb : Bool) (hbb : bb = true ↔ o ∈ xs) :
    Calls Try.prog 57 #[.slice a n cap, .int .i64 o] w fun e w' => e = .returned (.bool bb) ∧ Below w.heap.size w w' := by
  have HS := hide hs
  have HN := hide hn
  have HBB := hide hbb
  clear hs hn hbb
  go_enter Try.func57, Try.ntmps57
  go_wp2
  go_loop [9] (fun i => ∃ k : Nat, k ≤ n ∧ i = .int .i64 k ∧ Hid (∀ j, j < k → xs.getD j 0 ≠ o)) (fun i => n - (intOf i).toNat)
  case atStart => exact ⟨0, Nat.zero_le _, rfl, fun j hj => absurd hj (Nat.not_lt_zero _)⟩
  case round =>
    obtain ⟨k, hk, rfl, HJ⟩ := hrel
    by_cases hlt : k < n
    · obtain ⟨b, off, rfl, hc⟩ := HS.out k (by rw [HN.out]; exact hlt)
      have hltI : (k : Int) < (n : Int) := by omega
      obtain ⟨x, hx⟩ : ∃ x, x = xs.getD k 0 := ⟨_, rfl⟩
      rw [← hx] at hc
      have HX := hide hx.symm
      clear hx
      by_cases hle : x = o
      · subst hle
        have hmem : x ∈ xs := by
          have h1 := HX.out
          have h2 : k < xs.length := by rw [HN.out]; exact hlt
          simp only [List.getD, List.getElem?_eq_getElem h2, Option.getD_some] at h1
          rw [← h1]
          exact List.getElem_mem h2
        have HM := hide (HBB.out.2 hmem)
        clear hmem
        go_wp2
        go_ret
        exact ⟨by rw [HM.out]; rfl, Below.refl _ _⟩
      · have hle' : (x == o) = false := by simpa using hle
        have HLE := hide hle
        clear hle
        go_wp2
        go_round
        case rel =>
          refine ⟨k + 1, by omega, by go_num, ?_⟩
          intro j hj
          by_cases e : j = k
          · subst e; rw [HX.out]; exact HLE.out
          · exact HJ.out j (by omega)
        case measure => simp [intOf]; omega
    · have hltI : ¬ (k : Int) < (n : Int) := by omega
      have hmem : o ∉ xs := fun h => by
        obtain ⟨j, hj, e⟩ := List.getElem_of_mem h
        refine HJ.out j (by rw [HN.out] at hj; omega) ?_
        simp only [List.getD, List.getElem?_eq_getElem hj, Option.getD_some]
        exact e
      have HM := hide (bool_noT HBB.out hmem)
      clear hmem
      go_wp2
      go_ret
      exact ⟨by rw [HM.out]; rfl, Below.refl _ _⟩

set_option maxRecDepth 100000 in
set_option maxHeartbeats 4000000 in
theorem chosen_true (a : Option Addr) (xs : List Int) (n cap : Nat) (b : Option Addr) (ys : List Int) (n2 cap2 : Nat) (w : World) (hn : xs.length = n) (hs : Sl w a xs) (hn2 : n ≤ 1048576) (hm : ys.length = n2) (ht : SlC w b n2 cap2 ys) (hm2 : n2 ≤ 1048576) (hrx : Rise xs) (hry : Rise ys) :
    Calls Try.prog 56 #[.slice a n cap, .slice b n2 cap2, .bool true] w fun e w' => RetN w (those ys true xs) e w' := by
  obtain ⟨i1, hi1, hy0, hy1, hy2⟩ := info_parts info_int
  have HS := hide hs
  have HN := hide hn
  have HT := hide ht
  have HM2 := hide hm
  have HL := hide (fun f x w r ht hf hr => leap_any b ys n2 cap2 f x w hm (SlC.sl ht) hm2 hf (SlC.le ht) (SlC.max ht) (SlC.nil ht) hry r hr)
  have HH := hide (fun k x w bb (ht : SlC w b n2 cap2 ys) hb => hasAt_any b ys n2 cap2 k x w hm (SlC.sl ht) bb hb)
  have HRX := hide hrx
  have HRY := hide hry
  clear hs hn ht hm hrx hry
  go_enter Try.func56, Try.ntmps56
  go_wp2
  go_loopw [7, 8, 13] (fun ot s8 i wr => ∃ k : Nat, k ≤ n ∧ i = .int .i64 k ∧ wr.ownsRow w.heap.size 3 1 ot (those ys true (xs.take k)).length ((those ys true (xs.take k)).map (Value.int .i64)) ∧ Below w.heap.size w wr ∧ ∃ f : Nat, f ≤ n2 ∧ s8 = .int .i64 f ∧ Hid (∀ j, j < f → ∀ i, k ≤ i → i < n → ys.getD j 0 < xs.getD i 0)) (fun _ _ i _ => n - (intOf i).toNat)
  case atStart => exact ⟨0, Nat.zero_le _, rfl, World.ownsRow_nil _ _ _ _, Below.refl _ _, 0, Nat.zero_le _, rfl, fun j hj => absurd hj (Nat.not_lt_zero _)⟩
  case round =>
    obtain ⟨k, hk, rfl, hown, hbel, f, hf, rfl, HJ⟩ := hrel
    obtain ⟨oa, ocap, rfl, _, _⟩ := own_form hown
    by_cases hlt : k < n
    · obtain ⟨b1, off, rfl, hc0⟩ := HS.out k (by rw [HN.out]; exact hlt)
      have hc := (hbel.cell (p := ⟨b1, off + k, none⟩) (blk_lt hc0)).trans hc0
      have hltI : (k : Int) < (n : Int) := by omega
      have htk := those_snoc xs ys true k (by rw [HN.out]; exact hlt)
      obtain ⟨x, hx⟩ : ∃ x, x = xs.getD k 0 := ⟨_, rfl⟩
      rw [← hx] at hc htk
      have hml : (those ys true (xs.take k)).length ≤ 1048576 := by
        have h1 := those_len (xs.take k) ys true
        have h2 : (xs.take k).length ≤ k := by simp; omega
        omega
      obtain ⟨m, hmm⟩ : ∃ m, m = (those ys true (xs.take k)).length := ⟨_, rfl⟩
      rw [← hmm] at hown hml ⊢
      have HM := hide hmm
      have HX := hide hx.symm
      have HT1 := hide (HT.out.below hbel)
      have HROW0 := hide hown
      have B0 := hide hbel
      have hsz0 := hbel.size
      clear hc0 hx hmm hown hbel
      obtain ⟨u, hu⟩ : ∃ u, leap ys f x = u := ⟨_, rfl⟩
      have hmu := leap_mem (x := x) HRY.out (by rw [HM2.out]; exact hf) (fun j hj => by have := HJ.out j hj k (Nat.le_refl _) hlt; rw [HX.out] at this; exact this)
      rw [hu] at hmu
      have hun : u ≤ n2 := by have := leap_le ys f x (by rw [HM2.out]; exact hf); rw [hu, HM2.out] at this; exact this
      have HU : Hid (∀ j, j < u → ∀ i, k + 1 ≤ i → i < n → ys.getD j 0 < xs.getD i 0) := by
        intro j hj i h1 h2
        have q := rise_get HRX.out (show k < i by omega) (by rw [HN.out]; exact h2)
        rw [HX.out] at q
        by_cases hjf : j < f
        · exact HJ.out j hjf i (by omega) h2
        · have := leap_lt ys f x j (by omega) (by rw [hu]; exact hj)
          omega
      have HUL := hide hu
      clear hu
      by_cases hmem : x ∈ ys
      · have htk2 : those ys true (xs.take (k + 1)) = those ys true (xs.take k) ++ [x] := by rw [htk, if_pos (by simp [hmem])]
        have HTK := hide htk2
        have hbb : true = true ↔ u < ys.length ∧ ys.getD u 0 = x := by rw [← hmu]; simp [hmem]
        have HYY := hide hbb
        clear hmu hbb
        clear htk htk2 hmem
        go_wp2_with fail
        refine (HL.out f x _ u HT1.out hf HUL.out).mono ?_
        rintro e w1 ⟨rfl, hb1⟩
        have HT2 := hide (HT1.out.below hb1)
        have HROW := hide (own_belowT HROW0.out hb1)
        have B2 := hide (B0.out.trans (hb1.mono B0.out.size))
        have hsz := Nat.le_trans hsz0 hb1.size
        clear hb1
        go_wp2_with fail
        refine (HH.out u x _ true HT2.out (by simpa using HYY.out)).mono ?_
        rintro e w2 ⟨rfl, rfl⟩
        go_wp2_with (first
          | (at_builtin; refine wpList_append_own _ rfl _ _ 57 rfl w.heap.size 3 i1 (.int .i64 0) 1 8 Try.underlying57 hi1 hy0 hy1 hy2 rfl (by decide) _ _ _ rfl (HROW.out.alloc _) ⟨w1.heap.size, 0, none⟩ 1 1 [.int .i64 x] rfl rfl (cell_one_new _ _ _) (by intro u hu; simp at hu; subst hu; rfl) (by unfold maxLen; omega) (by omega) (by simp; omega) ?_)
          | go_in)
        intro v6 w6 hown6 hgrow6 _
        have hb6 := B2.out.trans (((Below.refl _ _).alloc hsz _).grown hgrow6 (by simp; omega) (fun g hg => (HROW.out.lt g hg).1))
        have hown8 : w6.ownsRow w.heap.size 3 1 v6 (those ys true (xs.take (k + 1))).length ((those ys true (xs.take (k + 1))).map (Value.int .i64)) := by
          rw [HTK.out, List.length_append, List.map_append, ← HM.out]; simpa using hown6
        have hown7 := hide hown8
        clear hown6 hgrow6 hown8
        go_wp2
        go_roundw
        case rel => exact ⟨k + 1, by omega, by go_num, hown7.out, hb6, u, hun, rfl, HU.out⟩
        case measure => simp [intOf]; omega
      · have htk2 : those ys true (xs.take (k + 1)) = those ys true (xs.take k) := by rw [htk, if_neg (by simp [hmem])]
        have HTK := hide htk2
        have hbb : false = true ↔ u < ys.length ∧ ys.getD u 0 = x := by rw [← hmu]; simp [hmem]
        have HYY := hide hbb
        clear hmu hbb
        clear htk htk2 hmem
        go_wp2_with fail
        refine (HL.out f x _ u HT1.out hf HUL.out).mono ?_
        rintro e w1 ⟨rfl, hb1⟩
        have HT2 := hide (HT1.out.below hb1)
        have HROW := hide (own_belowT HROW0.out hb1)
        have B2 := hide (B0.out.trans (hb1.mono B0.out.size))
        have hsz := Nat.le_trans hsz0 hb1.size
        clear hb1
        go_wp2_with fail
        refine (HH.out u x _ false HT2.out (by simpa using HYY.out)).mono ?_
        rintro e w2 ⟨rfl, rfl⟩
        have hown7 : Hid (w1.ownsRow w.heap.size 3 1 (.slice oa m ocap) (those ys true (xs.take (k + 1))).length ((those ys true (xs.take (k + 1))).map (Value.int .i64))) := by
          rw [HTK.out, ← HM.out]; exact HROW.out
        have hb6 := B2.out
        go_wp2
        go_roundw
        case rel => exact ⟨k + 1, by omega, by go_num, hown7.out, hb6, u, hun, rfl, HU.out⟩
        case measure => simp [intOf]; omega
    · obtain rfl : k = n := by omega
      have e1 : xs.take k = xs := List.take_of_length_le (by rw [HN.out]; exact Nat.le_refl _)
      rw [e1] at hown ⊢
      have HO := hide hown
      have hltI : ¬ (k : Int) < (k : Int) := by omega
      clear e1 hown
      go_wp2
      go_ret
      exact ⟨_, rfl, HO.out, hbel⟩

set_option maxRecDepth 100000 in
set_option maxHeartbeats 4000000 in
theorem those_true (a : Option Addr) (xs : List Int) (n cap : Nat) (b : Option Addr) (ys : List Int) (n2 cap2 : Nat) (w : World) (hn : xs.length = n) (hs : Sl w a xs) (hn2 : n ≤ 1048576) (hm : ys.length = n2) (ht : Sl w b ys) (hm2 : n2 ≤ 1048576) :
    Calls Try.prog 33 #[.slice a n cap, .slice b n2 cap2, .bool true] w fun e w' => RetN w (those ys true xs) e w' := by
  obtain ⟨i1, hi1, hy0, hy1, hy2⟩ := info_parts info_int
  have HS := hide hs
  have HN := hide hn
  have HT := hide ht
  have HM2 := hide hm
  have HL := hide (fun x w bb ht hb => l1Has_any b ys n2 cap2 x w hm ht hm2 bb hb)
  clear hs hn ht hm
  go_enter Try.func33, Try.ntmps33
  go_wp2
  go_loopw [7, 12] (fun ot i wr => ∃ k : Nat, k ≤ n ∧ i = .int .i64 k ∧ wr.ownsRow w.heap.size 3 1 ot (those ys true (xs.take k)).length ((those ys true (xs.take k)).map (Value.int .i64)) ∧ Below w.heap.size w wr) (fun _ i _ => n - (intOf i).toNat)
  case atStart => exact ⟨0, Nat.zero_le _, rfl, World.ownsRow_nil _ _ _ _, Below.refl _ _⟩
  case round =>
    obtain ⟨k, hk, rfl, hown, hbel⟩ := hrel
    obtain ⟨oa, ocap, rfl, _, _⟩ := own_form hown
    by_cases hlt : k < n
    · obtain ⟨b1, off, rfl, hc0⟩ := HS.out k (by rw [HN.out]; exact hlt)
      have hc := (hbel.cell (p := ⟨b1, off + k, none⟩) (blk_lt hc0)).trans hc0
      have hltI : (k : Int) < (n : Int) := by omega
      have htk := those_snoc xs ys true k (by rw [HN.out]; exact hlt)
      obtain ⟨x, hx⟩ : ∃ x, x = xs.getD k 0 := ⟨_, rfl⟩
      rw [← hx] at hc htk
      have hml : (those ys true (xs.take k)).length ≤ 1048576 := by
        have h1 := those_len (xs.take k) ys true
        have h2 : (xs.take k).length ≤ k := by simp; omega
        omega
      obtain ⟨m, hmm⟩ : ∃ m, m = (those ys true (xs.take k)).length := ⟨_, rfl⟩
      rw [← hmm] at hown hml ⊢
      have HM := hide hmm
      have HX := hide hx.symm
      have HT1 := hide (HT.out.below hbel)
      have HROW0 := hide hown
      have B0 := hide hbel
      have hsz0 := hbel.size
      clear hc0 hx hmm hown hbel
      by_cases hmem : x ∈ ys
      · have htk2 : those ys true (xs.take (k + 1)) = those ys true (xs.take k) ++ [x] := by rw [htk, if_pos (by simp [hmem])]
        have HTK := hide htk2
        have hbb : true = true ↔ x ∈ ys := by simp [hmem]
        have HYY := hide hbb
        clear hbb
        clear htk htk2 hmem
        go_wp2_with fail
        refine (HL.out x _ true HT1.out (by simpa using HYY.out)).mono ?_
        rintro e w1 ⟨rfl, hb1⟩
        have HROW := hide (own_belowT HROW0.out hb1)
        have B2 := hide (B0.out.trans (hb1.mono B0.out.size))
        have hsz := Nat.le_trans hsz0 hb1.size
        clear hb1
        go_wp2_with (first
          | (at_builtin; refine wpList_append_own _ rfl _ _ 23 rfl w.heap.size 3 i1 (.int .i64 0) 1 8 Try.underlying23 hi1 hy0 hy1 hy2 rfl (by decide) _ _ _ rfl (HROW.out.alloc _) ⟨w1.heap.size, 0, none⟩ 1 1 [.int .i64 x] rfl rfl (cell_one_new _ _ _) (by intro u hu; simp at hu; subst hu; rfl) (by unfold maxLen; omega) (by omega) (by simp; omega) ?_)
          | go_in)
        intro v6 w6 hown6 hgrow6 _
        have hb6 := B2.out.trans (((Below.refl _ _).alloc hsz _).grown hgrow6 (by simp; omega) (fun g hg => (HROW.out.lt g hg).1))
        have hown8 : w6.ownsRow w.heap.size 3 1 v6 (those ys true (xs.take (k + 1))).length ((those ys true (xs.take (k + 1))).map (Value.int .i64)) := by
          rw [HTK.out, List.length_append, List.map_append, ← HM.out]; simpa using hown6
        have hown7 := hide hown8
        clear hown6 hgrow6 hown8
        go_wp2
        go_roundw
        case rel => exact ⟨k + 1, by omega, by go_num, hown7.out, hb6⟩
        case measure => simp [intOf]; omega
      · have htk2 : those ys true (xs.take (k + 1)) = those ys true (xs.take k) := by rw [htk, if_neg (by simp [hmem])]
        have HTK := hide htk2
        have hbb : false = true ↔ x ∈ ys := by simp [hmem]
        have HYY := hide hbb
        clear hbb
        clear htk htk2 hmem
        go_wp2_with fail
        refine (HL.out x _ false HT1.out (by simpa using HYY.out)).mono ?_
        rintro e w1 ⟨rfl, hb1⟩
        have HROW := hide (own_belowT HROW0.out hb1)
        have B2 := hide (B0.out.trans (hb1.mono B0.out.size))
        have hsz := Nat.le_trans hsz0 hb1.size
        clear hb1
        have hown7 : Hid (w1.ownsRow w.heap.size 3 1 (.slice oa m ocap) (those ys true (xs.take (k + 1))).length ((those ys true (xs.take (k + 1))).map (Value.int .i64))) := by
          rw [HTK.out, ← HM.out]; exact HROW.out
        have hb6 := B2.out
        go_wp2
        go_roundw
        case rel => exact ⟨k + 1, by omega, by go_num, hown7.out, hb6⟩
        case measure => simp [intOf]; omega
    · obtain rfl : k = n := by omega
      have e1 : xs.take k = xs := List.take_of_length_le (by rw [HN.out]; exact Nat.le_refl _)
      rw [e1] at hown ⊢
      have HO := hide hown
      have hltI : ¬ (k : Int) < (k : Int) := by omega
      clear e1 hown
      go_wp2
      go_ret
      exact ⟨_, rfl, HO.out, hbel⟩

set_option maxRecDepth 100000 in
set_option maxHeartbeats 4000000 in
theorem chosen_false (a : Option Addr) (xs : List Int) (n cap : Nat) (b : Option Addr) (ys : List Int) (n2 cap2 : Nat) (w : World) (hn : xs.length = n) (hs : Sl w a xs) (hn2 : n ≤ 1048576) (hm : ys.length = n2) (ht : SlC w b n2 cap2 ys) (hm2 : n2 ≤ 1048576) (hrx : Rise xs) (hry : Rise ys) :
    Calls Try.prog 56 #[.slice a n cap, .slice b n2 cap2, .bool false] w fun e w' => RetN w (those ys false xs) e w' := by
  obtain ⟨i1, hi1, hy0, hy1, hy2⟩ := info_parts info_int
  have HS := hide hs
  have HN := hide hn
  have HT := hide ht
  have HM2 := hide hm
  have HL := hide (fun f x w r ht hf hr => leap_any b ys n2 cap2 f x w hm (SlC.sl ht) hm2 hf (SlC.le ht) (SlC.max ht) (SlC.nil ht) hry r hr)
  have HH := hide (fun k x w bb (ht : SlC w b n2 cap2 ys) hb => hasAt_any b ys n2 cap2 k x w hm (SlC.sl ht) bb hb)
  have HRX := hide hrx
  have HRY := hide hry
  clear hs hn ht hm hrx hry
  go_enter Try.func56, Try.ntmps56
  go_wp2
  go_loopw [7, 8, 13] (fun ot s8 i wr => ∃ k : Nat, k ≤ n ∧ i = .int .i64 k ∧ wr.ownsRow w.heap.size 3 1 ot (those ys false (xs.take k)).length ((those ys false (xs.take k)).map (Value.int .i64)) ∧ Below w.heap.size w wr ∧ ∃ f : Nat, f ≤ n2 ∧ s8 = .int .i64 f ∧ Hid (∀ j, j < f → ∀ i, k ≤ i → i < n → ys.getD j 0 < xs.getD i 0)) (fun _ _ i _ => n - (intOf i).toNat)
  case atStart => exact ⟨0, Nat.zero_le _, rfl, World.ownsRow_nil _ _ _ _, Below.refl _ _, 0, Nat.zero_le _, rfl, fun j hj => absurd hj (Nat.not_lt_zero _)⟩
  case round =>
    obtain ⟨k, hk, rfl, hown, hbel, f, hf, rfl, HJ⟩ := hrel
    obtain ⟨oa, ocap, rfl, _, _⟩ := own_form hown
    by_cases hlt : k < n
    · obtain ⟨b1, off, rfl, hc0⟩ := HS.out k (by rw [HN.out]; exact hlt)
      have hc := (hbel.cell (p := ⟨b1, off + k, none⟩) (blk_lt hc0)).trans hc0
      have hltI : (k : Int) < (n : Int) := by omega
      have htk := those_snoc xs ys false k (by rw [HN.out]; exact hlt)
      obtain ⟨x, hx⟩ : ∃ x, x = xs.getD k 0 := ⟨_, rfl⟩
      rw [← hx] at hc htk
      have hml : (those ys false (xs.take k)).length ≤ 1048576 := by
        have h1 := those_len (xs.take k) ys false
        have h2 : (xs.take k).length ≤ k := by simp; omega
        omega
      obtain ⟨m, hmm⟩ : ∃ m, m = (those ys false (xs.take k)).length := ⟨_, rfl⟩
      rw [← hmm] at hown hml ⊢
      have HM := hide hmm
      have HX := hide hx.symm
      have HT1 := hide (HT.out.below hbel)
      have HROW0 := hide hown
      have B0 := hide hbel
      have hsz0 := hbel.size
      clear hc0 hx hmm hown hbel
      obtain ⟨u, hu⟩ : ∃ u, leap ys f x = u := ⟨_, rfl⟩
      have hmu := leap_mem (x := x) HRY.out (by rw [HM2.out]; exact hf) (fun j hj => by have := HJ.out j hj k (Nat.le_refl _) hlt; rw [HX.out] at this; exact this)
      rw [hu] at hmu
      have hun : u ≤ n2 := by have := leap_le ys f x (by rw [HM2.out]; exact hf); rw [hu, HM2.out] at this; exact this
      have HU : Hid (∀ j, j < u → ∀ i, k + 1 ≤ i → i < n → ys.getD j 0 < xs.getD i 0) := by
        intro j hj i h1 h2
        have q := rise_get HRX.out (show k < i by omega) (by rw [HN.out]; exact h2)
        rw [HX.out] at q
        by_cases hjf : j < f
        · exact HJ.out j hjf i (by omega) h2
        · have := leap_lt ys f x j (by omega) (by rw [hu]; exact hj)
          omega
      have HUL := hide hu
      clear hu
      by_cases hmem : x ∈ ys
      · have htk2 : those ys false (xs.take (k + 1)) = those ys false (xs.take k) := by rw [htk, if_neg (by simp [hmem])]
        have HTK := hide htk2
        have hbb : true = true ↔ u < ys.length ∧ ys.getD u 0 = x := by rw [← hmu]; simp [hmem]
        have HYY := hide hbb
        clear hmu hbb
        clear htk htk2 hmem
        go_wp2_with fail
        refine (HL.out f x _ u HT1.out hf HUL.out).mono ?_
        rintro e w1 ⟨rfl, hb1⟩
        have HT2 := hide (HT1.out.below hb1)
        have HROW := hide (own_belowT HROW0.out hb1)
        have B2 := hide (B0.out.trans (hb1.mono B0.out.size))
        have hsz := Nat.le_trans hsz0 hb1.size
        clear hb1
        go_wp2_with fail
        refine (HH.out u x _ true HT2.out (by simpa using HYY.out)).mono ?_
        rintro e w2 ⟨rfl, rfl⟩
        have hown7 : Hid (w1.ownsRow w.heap.size 3 1 (.slice oa m ocap) (those ys false (xs.take (k + 1))).length ((those ys false (xs.take (k + 1))).map (Value.int .i64))) := by
          rw [HTK.out, ← HM.out]; exact HROW.out
        have hb6 := B2.out
        go_wp2
        go_roundw
        case rel => exact ⟨k + 1, by omega, by go_num, hown7.out, hb6, u, hun, rfl, HU.out⟩
        case measure => simp [intOf]; omega
      · have htk2 : those ys false (xs.take (k + 1)) = those ys false (xs.take k) ++ [x] := by rw [htk, if_pos (by simp [hmem])]
        have HTK := hide htk2
        have hbb : false = true ↔ u < ys.length ∧ ys.getD u 0 = x := by rw [← hmu]; simp [hmem]
        have HYY := hide hbb
        clear hmu hbb
        clear htk htk2 hmem
        go_wp2_with fail
        refine (HL.out f x _ u HT1.out hf HUL.out).mono ?_
        rintro e w1 ⟨rfl, hb1⟩
        have HT2 := hide (HT1.out.below hb1)
        have HROW := hide (own_belowT HROW0.out hb1)
        have B2 := hide (B0.out.trans (hb1.mono B0.out.size))
        have hsz := Nat.le_trans hsz0 hb1.size
        clear hb1
        go_wp2_with fail
        refine (HH.out u x _ false HT2.out (by simpa using HYY.out)).mono ?_
        rintro e w2 ⟨rfl, rfl⟩
        go_wp2_with (first
          | (at_builtin; refine wpList_append_own _ rfl _ _ 57 rfl w.heap.size 3 i1 (.int .i64 0) 1 8 Try.underlying57 hi1 hy0 hy1 hy2 rfl (by decide) _ _ _ rfl (HROW.out.alloc _) ⟨w1.heap.size, 0, none⟩ 1 1 [.int .i64 x] rfl rfl (cell_one_new _ _ _) (by intro u hu; simp at hu; subst hu; rfl) (by unfold maxLen; omega) (by omega) (by simp; omega) ?_)
          | go_in)
        intro v6 w6 hown6 hgrow6 _
        have hb6 := B2.out.trans (((Below.refl _ _).alloc hsz _).grown hgrow6 (by simp; omega) (fun g hg => (HROW.out.lt g hg).1))
        have hown8 : w6.ownsRow w.heap.size 3 1 v6 (those ys false (xs.take (k + 1))).length ((those ys false (xs.take (k + 1))).map (Value.int .i64)) := by
          rw [HTK.out, List.length_append, List.map_append, ← HM.out]; simpa using hown6
        have hown7 := hide hown8
        clear hown6 hgrow6 hown8
        go_wp2
        go_roundw
        case rel => exact ⟨k + 1, by omega, by go_num, hown7.out, hb6, u, hun, rfl, HU.out⟩
        case measure => simp [intOf]; omega
    · obtain rfl : k = n := by omega
      have e1 : xs.take k = xs := List.take_of_length_le (by rw [HN.out]; exact Nat.le_refl _)
      rw [e1] at hown ⊢
      have HO := hide hown
      have hltI : ¬ (k : Int) < (k : Int) := by omega
      clear e1 hown
      go_wp2
      go_ret
      exact ⟨_, rfl, HO.out, hbel⟩

set_option maxRecDepth 100000 in
set_option maxHeartbeats 4000000 in
theorem those_false (a : Option Addr) (xs : List Int) (n cap : Nat) (b : Option Addr) (ys : List Int) (n2 cap2 : Nat) (w : World) (hn : xs.length = n) (hs : Sl w a xs) (hn2 : n ≤ 1048576) (hm : ys.length = n2) (ht : Sl w b ys) (hm2 : n2 ≤ 1048576) :
    Calls Try.prog 33 #[.slice a n cap, .slice b n2 cap2, .bool false] w fun e w' => RetN w (those ys false xs) e w' := by
  obtain ⟨i1, hi1, hy0, hy1, hy2⟩ := info_parts info_int
  have HS := hide hs
  have HN := hide hn
  have HT := hide ht
  have HM2 := hide hm
  have HL := hide (fun x w bb ht hb => l1Has_any b ys n2 cap2 x w hm ht hm2 bb hb)
  clear hs hn ht hm
  go_enter Try.func33, Try.ntmps33
  go_wp2
  go_loopw [7, 12] (fun ot i wr => ∃ k : Nat, k ≤ n ∧ i = .int .i64 k ∧ wr.ownsRow w.heap.size 3 1 ot (those ys false (xs.take k)).length ((those ys false (xs.take k)).map (Value.int .i64)) ∧ Below w.heap.size w wr) (fun _ i _ => n - (intOf i).toNat)
  case atStart => exact ⟨0, Nat.zero_le _, rfl, World.ownsRow_nil _ _ _ _, Below.refl _ _⟩
  case round =>
    obtain ⟨k, hk, rfl, hown, hbel⟩ := hrel
    obtain ⟨oa, ocap, rfl, _, _⟩ := own_form hown
    by_cases hlt : k < n
    · obtain ⟨b1, off, rfl, hc0⟩ := HS.out k (by rw [HN.out]; exact hlt)
      have hc := (hbel.cell (p := ⟨b1, off + k, none⟩) (blk_lt hc0)).trans hc0
      have hltI : (k : Int) < (n : Int) := by omega
      have htk := those_snoc xs ys false k (by rw [HN.out]; exact hlt)
      obtain ⟨x, hx⟩ : ∃ x, x = xs.getD k 0 := ⟨_, rfl⟩
      rw [← hx] at hc htk
      have hml : (those ys false (xs.take k)).length ≤ 1048576 := by
        have h1 := those_len (xs.take k) ys false
        have h2 : (xs.take k).length ≤ k := by simp; omega
        omega
      obtain ⟨m, hmm⟩ : ∃ m, m = (those ys false (xs.take k)).length := ⟨_, rfl⟩
      rw [← hmm] at hown hml ⊢
      have HM := hide hmm
      have HX := hide hx.symm
      have HT1 := hide (HT.out.below hbel)
      have HROW0 := hide hown
      have B0 := hide hbel
      have hsz0 := hbel.size
      clear hc0 hx hmm hown hbel
      by_cases hmem : x ∈ ys
      · have htk2 : those ys false (xs.take (k + 1)) = those ys false (xs.take k) := by rw [htk, if_neg (by simp [hmem])]
        have HTK := hide htk2
        have hbb : true = true ↔ x ∈ ys := by simp [hmem]
        have HYY := hide hbb
        clear hbb
        clear htk htk2 hmem
        go_wp2_with fail
        refine (HL.out x _ true HT1.out (by simpa using HYY.out)).mono ?_
        rintro e w1 ⟨rfl, hb1⟩
        have HROW := hide (own_belowT HROW0.out hb1)
        have B2 := hide (B0.out.trans (hb1.mono B0.out.size))
        have hsz := Nat.le_trans hsz0 hb1.size
        clear hb1
        have hown7 : Hid (w1.ownsRow w.heap.size 3 1 (.slice oa m ocap) (those ys false (xs.take (k + 1))).length ((those ys false (xs.take (k + 1))).map (Value.int .i64))) := by
          rw [HTK.out, ← HM.out]; exact HROW.out
        have hb6 := B2.out
        go_wp2
        go_roundw
        case rel => exact ⟨k + 1, by omega, by go_num, hown7.out, hb6⟩
        case measure => simp [intOf]; omega
      · have htk2 : those ys false (xs.take (k + 1)) = those ys false (xs.take k) ++ [x] := by rw [htk, if_pos (by simp [hmem])]
        have HTK := hide htk2
        have hbb : false = true ↔ x ∈ ys := by simp [hmem]
        have HYY := hide hbb
        clear hbb
        clear htk htk2 hmem
        go_wp2_with fail
        refine (HL.out x _ false HT1.out (by simpa using HYY.out)).mono ?_
        rintro e w1 ⟨rfl, hb1⟩
        have HROW := hide (own_belowT HROW0.out hb1)
        have B2 := hide (B0.out.trans (hb1.mono B0.out.size))
        have hsz := Nat.le_trans hsz0 hb1.size
        clear hb1
        go_wp2_with (first
          | (at_builtin; refine wpList_append_own _ rfl _ _ 23 rfl w.heap.size 3 i1 (.int .i64 0) 1 8 Try.underlying23 hi1 hy0 hy1 hy2 rfl (by decide) _ _ _ rfl (HROW.out.alloc _) ⟨w1.heap.size, 0, none⟩ 1 1 [.int .i64 x] rfl rfl (cell_one_new _ _ _) (by intro u hu; simp at hu; subst hu; rfl) (by unfold maxLen; omega) (by omega) (by simp; omega) ?_)
          | go_in)
        intro v6 w6 hown6 hgrow6 _
        have hb6 := B2.out.trans (((Below.refl _ _).alloc hsz _).grown hgrow6 (by simp; omega) (fun g hg => (HROW.out.lt g hg).1))
        have hown8 : w6.ownsRow w.heap.size 3 1 v6 (those ys false (xs.take (k + 1))).length ((those ys false (xs.take (k + 1))).map (Value.int .i64)) := by
          rw [HTK.out, List.length_append, List.map_append, ← HM.out]; simpa using hown6
        have hown7 := hide hown8
        clear hown6 hgrow6 hown8
        go_wp2
        go_roundw
        case rel => exact ⟨k + 1, by omega, by go_num, hown7.out, hb6⟩
        case measure => simp [intOf]; omega
    · obtain rfl : k = n := by omega
      have e1 : xs.take k = xs := List.take_of_length_le (by rw [HN.out]; exact Nat.le_refl _)
      rw [e1] at hown ⊢
      have HO := hide hown
      have hltI : ¬ (k : Int) < (k : Int) := by omega
      clear e1 hown
      go_wp2
      go_ret
      exact ⟨_, rfl, HO.out, hbel⟩
end Go.Proofs.Ythicdnkngpiccab.L4
