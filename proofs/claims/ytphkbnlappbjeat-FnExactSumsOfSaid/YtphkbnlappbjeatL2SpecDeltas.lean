/-
  Contracts: spec.l2Few, spec.l2Deltas, spec.l2Sums, spec.DeltasOf, spec.SumsOf: of at most 40 numbers in -1000000000000..1000000000000 the differences, or the running sums, in new memory, and true, where all told are in these bounds; else no list and false.
-/
import Derived.Test.YtphkbnlappbjeatL2Math
import Derived.Test.YtphkbnlappbjeatL1SpecAll
namespace Go.Proofs.Ytphkbnlappbjeat.L1
open Go.RowKit
set_option linter.unusedVariables false

set_option maxRecDepth 100000 in
set_option maxHeartbeats 1000000 in
theorem l2Few_yes (a : Option Addr) (xs : List Int) (n cap : Nat) (w : World) (hn : xs.length = n) (hs : Sl w a xs) (hn2 : n ≤ 40) (hok : OkL xs) :
    Calls Try.prog 23 #[.slice a n cap] w fun e w' => e = .returned (.bool true) ∧ w = w' := by
  have c := l1All_yes a xs n cap w hn hs (by omega) hok
  have C := hide c
  have h40 : (n : Int) ≤ 40 := by omega
  clear c hs hn hok
  go_enter Try.func23, Try.ntmps23
  go_wp2_with fail
  refine C.out.mono ?_
  rintro e w1 ⟨rfl, rfl⟩
  go_wp2
  go_ret
  exact ⟨rfl, rfl⟩
set_option maxRecDepth 100000 in
set_option maxHeartbeats 1000000 in
theorem l2Few_no (a : Option Addr) (xs : List Int) (n cap : Nat) (w : World) (hn : xs.length = n) (hs : Sl w a xs) (hn2 : n ≤ 1048576) (hno : ¬ (n ≤ 40 ∧ OkL xs)) :
    Calls Try.prog 23 #[.slice a n cap] w fun e w' => e = .returned (.bool false) ∧ w = w' := by
  by_cases h40 : (n : Int) ≤ 40
  · have c := l1All_no a xs n cap w hn hs (by omega) (fun h => hno ⟨by omega, h⟩)
    have C := hide c
    clear c hs hn hno
    go_enter Try.func23, Try.ntmps23
    go_wp2_with fail
    refine C.out.mono ?_
    rintro e w1 ⟨rfl, rfl⟩
    go_wp2
    go_ret
    exact ⟨rfl, rfl⟩
  · clear hs hn hno
    go_enter Try.func23, Try.ntmps23
    go_wp2
    go_ret
    exact ⟨rfl, rfl⟩

theorem wrap_id {z : Int} (h1 : -9223372036854775808 ≤ z) (h2 : z ≤ 9223372036854775807) : IntKind.i64.wrap z = z := by
  simp only [IntKind.wrap, IntKind.bits, IntKind.signed]
  simp
  omega
theorem dl_bd40 {xs : List Int} {n : Nat} (hn : xs.length = n) (h : OkL xs) : ∀ k, k < n → -4000000000000000000 ≤ (dl 0 xs).getD k 0 ∧ (dl 0 xs).getD k 0 ≤ 4000000000000000000 := fun k hk => by
  have := dl_bd (B := 1000000000000) (by omega) h k (by rw [dl_len]; omega)
  omega
theorem sm_bd40 {xs : List Int} {n : Nat} (hn : xs.length = n) (hn2 : n ≤ 40) (h : OkL xs) : ∀ k, k < n → -4000000000000000000 ≤ (sm 0 xs).getD k 0 ∧ (sm 0 xs).getD k 0 ≤ 4000000000000000000 := fun k hk => by
  have := sm_bd h (k + 1) (by omega)
  rw [List.getD_cons_succ] at this
  omega

set_option maxRecDepth 100000 in
set_option maxHeartbeats 1000000 in
theorem l2Deltas_any (a : Option Addr) (xs : List Int) (n cap : Nat) (w : World) (hn : xs.length = n) (hs : Sl w a xs) (hn2 : n ≤ 40) (hbd : ∀ k, k < n → -4000000000000000000 ≤ (dl 0 xs).getD k 0 ∧ (dl 0 xs).getD k 0 ≤ 4000000000000000000) :
    Calls Try.prog 24 #[.slice a n cap] w fun e w' => ∃ v, e = .returned v ∧ w'.ownsRow w.heap.size 3 1 v n ((dl 0 xs).map (Value.int .i64)) ∧ Below w.heap.size w w' := by
  obtain ⟨i0, hi, hz0, hz1, hz2⟩ := info_parts info_int
  have HS := hide hs
  have HN := hide hn
  have HB := hide hbd
  clear hs hn hbd
  go_enter Try.func24, Try.ntmps24
  go_wp2
  go_loopw [3, 4, 9] (fun o p i wr => ∃ k : Nat, k ≤ n ∧ i = .int .i64 k ∧ p = .int .i64 ((0 :: xs).getD k 0) ∧ wr.ownsRow w.heap.size 3 1 o k (((dl 0 xs).take k).map (Value.int .i64)) ∧ Below w.heap.size w wr) (fun _ _ i _ => n - (intOf i).toNat)
  case atStart => exact ⟨0, Nat.zero_le _, rfl, rfl, World.ownsRow_nil _ _ _ _, Below.refl _ _⟩
  case round =>
    obtain ⟨k, hk, rfl, rfl, hown, hbel⟩ := hrel
    obtain ⟨oa, ocap, rfl, _, _⟩ := own_form hown
    by_cases hlt : k < n
    · obtain ⟨b, off, rfl, hc0⟩ := HS.out k (by rw [HN.out]; exact hlt)
      have hc : wr.cell? ⟨b, off + k, none⟩ = some (.int .i64 (xs.getD k 0)) := by
        rw [hbel.cell (p := ⟨b, off + k, none⟩) (blk_lt hc0)]
        exact hc0
      have hd := dl_get xs 0 k (by rw [HN.out]; exact hlt)
      have hb := HB.out k hlt
      have hnext : (0 :: xs).getD (k + 1) 0 = xs.getD k 0 := List.getD_cons_succ
      have htk := ltake_snoc (dl 0 xs) k (by rw [dl_len, HN.out]; exact hlt)
      obtain ⟨x, hx⟩ : ∃ x, x = xs.getD k 0 := ⟨_, rfl⟩
      obtain ⟨p, hp⟩ : ∃ p, p = (0 :: xs).getD k 0 := ⟨_, rfl⟩
      rw [← hx] at hc hd hnext
      rw [← hp] at hd ⊢
      rw [hd] at htk hb
      obtain ⟨hb1, hb2⟩ := hb
      have hwr : IntKind.i64.wrap (x - p) = x - p := wrap_id (by omega) (by omega)
      have HTK := hide htk
      have HNX := hide hnext
      have hltI : (k : Int) < (n : Int) := by omega
      clear hd htk hnext hc0 hx hp
      go_wp2_with (first
        | (at_builtin; refine wpList_append_own _ rfl _ _ 29 rfl w.heap.size 3 i0 (.int .i64 0) 1 8 Try.underlying29 hi hz0 hz1 hz2 rfl (by decide) _ _ _ rfl (hown.alloc _) ⟨wr.heap.size, 0, none⟩ 1 1 [.int .i64 (x - p)] rfl rfl (cell_one_new _ _ _) (by intro u hu; simp at hu; subst hu; rfl) (by unfold maxLen; omega) (by omega) (by have := hbel.size; simp; omega) ?_)
        | go_in)
      intro v' w2 hown' hgrow _
      have hb2 : Below w.heap.size w w2 := (hbel.alloc hbel.size _).grown hgrow (by have := hbel.size; simp; omega) (fun k hk => (hown.lt k hk).1)
      have hown2 : w2.ownsRow w.heap.size 3 1 v' (k + 1) (((dl 0 xs).take (k + 1)).map (Value.int .i64)) := by rw [HTK.out]; simpa using hown'
      clear hown' hgrow hown
      go_wp2
      go_roundw
      case rel => exact ⟨k + 1, by omega, by go_num, by rw [HNX.out], hown2, hb2⟩
      case measure => simp [intOf]; omega
    · obtain rfl : k = n := by omega
      have e : (dl 0 xs).take k = dl 0 xs := List.take_of_length_le (by rw [dl_len, HN.out]; omega)
      rw [e] at hown
      have hltI : ¬ (k : Int) < (k : Int) := by omega
      have HO := hide hown
      clear e hown
      go_wp2
      go_ret
      exact ⟨_, rfl, HO.out, hbel⟩

set_option maxRecDepth 100000 in
set_option maxHeartbeats 1000000 in
theorem l2Sums_any (a : Option Addr) (xs : List Int) (n cap : Nat) (w : World) (hn : xs.length = n) (hs : Sl w a xs) (hn2 : n ≤ 40) (hbd : ∀ k, k < n → -4000000000000000000 ≤ (sm 0 xs).getD k 0 ∧ (sm 0 xs).getD k 0 ≤ 4000000000000000000) :
    Calls Try.prog 28 #[.slice a n cap] w fun e w' => ∃ v, e = .returned v ∧ w'.ownsRow w.heap.size 3 1 v n ((sm 0 xs).map (Value.int .i64)) ∧ Below w.heap.size w w' := by
  obtain ⟨i0, hi, hz0, hz1, hz2⟩ := info_parts info_int
  have HS := hide hs
  have HN := hide hn
  have HB := hide hbd
  clear hs hn hbd
  go_enter Try.func28, Try.ntmps28
  go_wp2
  go_loopw [3, 4, 9] (fun o p i wr => ∃ k : Nat, k ≤ n ∧ i = .int .i64 k ∧ p = .int .i64 ((0 :: sm 0 xs).getD k 0) ∧ wr.ownsRow w.heap.size 3 1 o k (((sm 0 xs).take k).map (Value.int .i64)) ∧ Below w.heap.size w wr) (fun _ _ i _ => n - (intOf i).toNat)
  case atStart => exact ⟨0, Nat.zero_le _, rfl, rfl, World.ownsRow_nil _ _ _ _, Below.refl _ _⟩
  case round =>
    obtain ⟨k, hk, rfl, rfl, hown, hbel⟩ := hrel
    obtain ⟨oa, ocap, rfl, _, _⟩ := own_form hown
    by_cases hlt : k < n
    · obtain ⟨b, off, rfl, hc0⟩ := HS.out k (by rw [HN.out]; exact hlt)
      have hc : wr.cell? ⟨b, off + k, none⟩ = some (.int .i64 (xs.getD k 0)) := by
        rw [hbel.cell (p := ⟨b, off + k, none⟩) (blk_lt hc0)]
        exact hc0
      have hd := sm_get xs 0 k (by rw [HN.out]; exact hlt)
      have hb := HB.out k hlt
      have hnext : (0 :: sm 0 xs).getD (k + 1) 0 = (sm 0 xs).getD k 0 := List.getD_cons_succ
      have htk := ltake_snoc (sm 0 xs) k (by rw [sm_len, HN.out]; exact hlt)
      obtain ⟨x, hx⟩ : ∃ x, x = xs.getD k 0 := ⟨_, rfl⟩
      obtain ⟨p, hp⟩ : ∃ p, p = (0 :: sm 0 xs).getD k 0 := ⟨_, rfl⟩
      rw [← hx] at hc hd
      rw [← hp] at hd ⊢
      rw [hd] at htk hb hnext
      obtain ⟨hb1, hb2⟩ := hb
      have hwr : IntKind.i64.wrap (p + x) = p + x := wrap_id (by omega) (by omega)
      have HTK := hide htk
      have HNX := hide hnext
      have hltI : (k : Int) < (n : Int) := by omega
      clear hd htk hnext hc0 hx hp
      go_wp2_with (first
        | (at_builtin; refine wpList_append_own _ rfl _ _ 29 rfl w.heap.size 3 i0 (.int .i64 0) 1 8 Try.underlying29 hi hz0 hz1 hz2 rfl (by decide) _ _ _ rfl (hown.alloc _) ⟨wr.heap.size, 0, none⟩ 1 1 [.int .i64 (p + x)] rfl rfl (cell_one_new _ _ _) (by intro u hu; simp at hu; subst hu; rfl) (by unfold maxLen; omega) (by omega) (by have := hbel.size; simp; omega) ?_)
        | go_in)
      intro v' w2 hown' hgrow _
      have hb2 : Below w.heap.size w w2 := (hbel.alloc hbel.size _).grown hgrow (by have := hbel.size; simp; omega) (fun k hk => (hown.lt k hk).1)
      have hown2 : w2.ownsRow w.heap.size 3 1 v' (k + 1) (((sm 0 xs).take (k + 1)).map (Value.int .i64)) := by rw [HTK.out]; simpa using hown'
      clear hown' hgrow hown
      go_wp2
      go_roundw
      case rel => exact ⟨k + 1, by omega, by go_num, by rw [HNX.out], hown2, hb2⟩
      case measure => simp [intOf]; omega
    · obtain rfl : k = n := by omega
      have e : (sm 0 xs).take k = sm 0 xs := List.take_of_length_le (by rw [sm_len, HN.out]; omega)
      rw [e] at hown
      have hltI : ¬ (k : Int) < (k : Int) := by omega
      have HO := hide hown
      clear e hown
      go_wp2
      go_ret
      exact ⟨_, rfl, HO.out, hbel⟩

theorem SdRes_some {xs : List Int} (h40 : xs.length ≤ 40) (h : OkL xs) (hd : OkL (dl 0 xs)) : dRes xs = some (dl 0 xs) := by
  unfold dRes; rw [if_pos ⟨h40, h, hd⟩]
theorem SdRes_none {xs : List Int} (h : ¬ (xs.length ≤ 40 ∧ OkL xs ∧ OkL (dl 0 xs))) : dRes xs = none := by
  unfold dRes; rw [if_neg h]

set_option maxRecDepth 100000 in
set_option maxHeartbeats 1000000 in
theorem specDeltas_any (a : Option Addr) (xs : List Int) (n cap : Nat) (w : World) (hn : xs.length = n) (hs : Sl w a xs) (hn2 : n ≤ 1048576) :
    Calls Try.prog 11 #[.slice a n cap] w fun e w' => RetL w (dRes xs) e w' := by
  by_cases hok : n ≤ 40 ∧ OkL xs
  · have c1 := l2Few_yes a xs n cap w hn hs hok.1 hok.2
    have c2 := l2Deltas_any a xs n cap w hn hs hok.1 (dl_bd40 hn hok.2)
    have C1 := hide c1
    have C2 := hide c2
    have hl : (dl 0 xs).length = n := by rw [dl_len, hn]
    by_cases hd : OkL (dl 0 xs)
    · have e := SdRes_some (by omega) hok.2 hd
      have C3 := hide (fun a cap w hs => l2Few_yes a (dl 0 xs) n cap w hl hs hok.1 hd)
      have E := hide e
      have HL := hide hl
      clear c1 c2 hok hs hn e hd hl
      go_enter Try.func11, Try.ntmps11
      go_wp2_with fail
      refine C1.out.mono ?_
      rintro e w1 ⟨rfl, rfl⟩
      go_wp2_with fail
      refine C2.out.mono ?_
      rintro e w1 ⟨v, rfl, ho, hb1⟩
      obtain ⟨va, vcap, rfl, hsl, _⟩ := own_form ho
      have HO := hide ho
      have HS := hide hsl
      clear ho hsl
      go_wp2_with fail
      refine (C3.out _ _ _ HS.out).mono ?_
      rintro e w2 ⟨rfl, rfl⟩
      go_wp2
      go_ret2
      exact ⟨_, by rw [E.out]; rfl, by rw [E.out]; simp only [Option.getD_some]; rw [HL.out]; exact HO.out, hb1⟩
    · have e := SdRes_none (xs := xs) (fun h => hd h.2.2)
      have C3 := hide (fun a cap w hs => l2Few_no a (dl 0 xs) n cap w hl hs (by omega) (fun h => hd h.2))
      have E := hide e
      clear c1 c2 hok hs hn e hd hl
      go_enter Try.func11, Try.ntmps11
      go_wp2_with fail
      refine C1.out.mono ?_
      rintro e w1 ⟨rfl, rfl⟩
      go_wp2_with fail
      refine C2.out.mono ?_
      rintro e w1 ⟨v, rfl, ho, hb1⟩
      obtain ⟨va, vcap, rfl, hsl, _⟩ := own_form ho
      have HS := hide hsl
      clear ho hsl
      go_wp2_with fail
      refine (C3.out _ _ _ HS.out).mono ?_
      rintro e w2 ⟨rfl, rfl⟩
      go_wp2
      go_ret2
      exact ⟨_, by rw [E.out]; rfl, by rw [E.out]; exact World.ownsRow_nil _ _ _ _, hb1⟩
  · have c1 := l2Few_no a xs n cap w hn hs hn2 hok
    have e := SdRes_none (xs := xs) (by rw [hn]; exact fun h => hok ⟨h.1, h.2.1⟩)
    have C1 := hide c1
    have E := hide e
    clear c1 hok hs hn e
    go_enter Try.func11, Try.ntmps11
    go_wp2_with fail
    refine C1.out.mono ?_
    rintro e w1 ⟨rfl, rfl⟩
    go_wp2
    go_ret2
    exact ⟨_, by rw [E.out]; rfl, by rw [E.out]; exact World.ownsRow_nil _ _ _ _, Below.refl _ _⟩

theorem SsRes_some {xs : List Int} (h40 : xs.length ≤ 40) (h : OkL xs) (hd : OkL (sm 0 xs)) : sRes xs = some (sm 0 xs) := by
  unfold sRes; rw [if_pos ⟨h40, h, hd⟩]
theorem SsRes_none {xs : List Int} (h : ¬ (xs.length ≤ 40 ∧ OkL xs ∧ OkL (sm 0 xs))) : sRes xs = none := by
  unfold sRes; rw [if_neg h]

set_option maxRecDepth 100000 in
set_option maxHeartbeats 1000000 in
theorem specSums_any (a : Option Addr) (xs : List Int) (n cap : Nat) (w : World) (hn : xs.length = n) (hs : Sl w a xs) (hn2 : n ≤ 1048576) :
    Calls Try.prog 17 #[.slice a n cap] w fun e w' => RetL w (sRes xs) e w' := by
  by_cases hok : n ≤ 40 ∧ OkL xs
  · have c1 := l2Few_yes a xs n cap w hn hs hok.1 hok.2
    have c2 := l2Sums_any a xs n cap w hn hs hok.1 (sm_bd40 hn hok.1 hok.2)
    have C1 := hide c1
    have C2 := hide c2
    have hl : (sm 0 xs).length = n := by rw [sm_len, hn]
    by_cases hd : OkL (sm 0 xs)
    · have e := SsRes_some (by omega) hok.2 hd
      have C3 := hide (fun a cap w hs => l2Few_yes a (sm 0 xs) n cap w hl hs hok.1 hd)
      have E := hide e
      have HL := hide hl
      clear c1 c2 hok hs hn e hd hl
      go_enter Try.func17, Try.ntmps17
      go_wp2_with fail
      refine C1.out.mono ?_
      rintro e w1 ⟨rfl, rfl⟩
      go_wp2_with fail
      refine C2.out.mono ?_
      rintro e w1 ⟨v, rfl, ho, hb1⟩
      obtain ⟨va, vcap, rfl, hsl, _⟩ := own_form ho
      have HO := hide ho
      have HS := hide hsl
      clear ho hsl
      go_wp2_with fail
      refine (C3.out _ _ _ HS.out).mono ?_
      rintro e w2 ⟨rfl, rfl⟩
      go_wp2
      go_ret2
      exact ⟨_, by rw [E.out]; rfl, by rw [E.out]; simp only [Option.getD_some]; rw [HL.out]; exact HO.out, hb1⟩
    · have e := SsRes_none (xs := xs) (fun h => hd h.2.2)
      have C3 := hide (fun a cap w hs => l2Few_no a (sm 0 xs) n cap w hl hs (by omega) (fun h => hd h.2))
      have E := hide e
      clear c1 c2 hok hs hn e hd hl
      go_enter Try.func17, Try.ntmps17
      go_wp2_with fail
      refine C1.out.mono ?_
      rintro e w1 ⟨rfl, rfl⟩
      go_wp2_with fail
      refine C2.out.mono ?_
      rintro e w1 ⟨v, rfl, ho, hb1⟩
      obtain ⟨va, vcap, rfl, hsl, _⟩ := own_form ho
      have HS := hide hsl
      clear ho hsl
      go_wp2_with fail
      refine (C3.out _ _ _ HS.out).mono ?_
      rintro e w2 ⟨rfl, rfl⟩
      go_wp2
      go_ret2
      exact ⟨_, by rw [E.out]; rfl, by rw [E.out]; exact World.ownsRow_nil _ _ _ _, hb1⟩
  · have c1 := l2Few_no a xs n cap w hn hs hn2 hok
    have e := SsRes_none (xs := xs) (by rw [hn]; exact fun h => hok ⟨h.1, h.2.1⟩)
    have C1 := hide c1
    have E := hide e
    clear c1 hok hs hn e
    go_enter Try.func17, Try.ntmps17
    go_wp2_with fail
    refine C1.out.mono ?_
    rintro e w1 ⟨rfl, rfl⟩
    go_wp2
    go_ret2
    exact ⟨_, by rw [E.out]; rfl, by rw [E.out]; exact World.ownsRow_nil _ _ _ _, Below.refl _ _⟩
end Go.Proofs.Ytphkbnlappbjeat.L1
