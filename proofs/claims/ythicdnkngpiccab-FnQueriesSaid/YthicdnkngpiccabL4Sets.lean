/-
  Contracts: a rising set's meet and without.
-/
import Derived.Test.YthicdnkngpiccabL4Join
namespace Go.Proofs.Ythicdnkngpiccab.L4
open Go.RowKit L1
set_option linter.unusedVariables false

set_option maxRecDepth 100000 in
set_option maxHeartbeats 1000000 in
theorem meet_any (a : Option Addr) (xs : List Int) (n cap : Nat) (b : Option Addr) (ys : List Int) (n2 cap2 : Nat) (w : World) (hn : xs.length = n) (hs : SlC w a n cap xs) (hn2 : n ≤ 1048576) (hm : ys.length = n2) (ht : SlC w b n2 cap2 ys) (hm2 : n2 ≤ 1048576) (hrx : Rise xs) (hry : Rise ys) :
    Calls Try.prog 31 #[.slice a n cap, .slice b n2 cap2] w fun e w' => RetN w (those ys true xs) e w' := by
  have C := hide (chosen_true a xs n cap b ys n2 cap2 w hn hs.sl hn2 hm ht hm2 hrx hry)
  clear hn hs hm ht hrx hry
  go_enter Try.func31, Try.ntmps31
  go_wp2_with fail
  refine C.out.mono ?_
  rintro e w1 ⟨v, rfl, ho, hb⟩
  have HO := hide ho
  have HB := hide hb
  obtain ⟨a5, c5, rfl⟩ := own_shapeT ho
  clear ho hb
  go_wp2
  go_ret
  exact ⟨_, rfl, HO.out, HB.out⟩

set_option maxRecDepth 100000 in
set_option maxHeartbeats 1000000 in
theorem without_any (a : Option Addr) (xs : List Int) (n cap : Nat) (b : Option Addr) (ys : List Int) (n2 cap2 : Nat) (w : World) (hn : xs.length = n) (hs : SlC w a n cap xs) (hn2 : n ≤ 1048576) (hm : ys.length = n2) (ht : SlC w b n2 cap2 ys) (hm2 : n2 ≤ 1048576) (hrx : Rise xs) (hry : Rise ys) :
    Calls Try.prog 36 #[.slice a n cap, .slice b n2 cap2] w fun e w' => RetN w (those ys false xs) e w' := by
  have C := hide (chosen_false a xs n cap b ys n2 cap2 w hn hs.sl hn2 hm ht hm2 hrx hry)
  clear hn hs hm ht hrx hry
  go_enter Try.func36, Try.ntmps36
  go_wp2_with fail
  refine C.out.mono ?_
  rintro e w1 ⟨v, rfl, ho, hb⟩
  have HO := hide ho
  have HB := hide hb
  obtain ⟨a5, c5, rfl⟩ := own_shapeT ho
  clear ho hb
  go_wp2
  go_ret
  exact ⟨_, rfl, HO.out, HB.out⟩

theorem sl_any {w : World} {x : Addr} {xs : List Int} (h : Sl w (some x) xs) : ∀ j u, (xs.map (Value.int .i64))[j]? = some u → w.cell? (x.add j) = some u := fun j u hu => by
  by_cases hj : j < xs.length
  · obtain ⟨b, off, e, _⟩ := h 0 (by omega)
    cases e
    exact sl_all h j u hu
  · rw [List.getElem?_eq_none (by simp; omega)] at hu
    cases hu

set_option maxRecDepth 100000 in
set_option maxHeartbeats 4000000 in
theorem l4Join_any (a : Option Addr) (xs : List Int) (n cap : Nat) (b : Option Addr) (ys : List Int) (n2 cap2 : Nat) (w : World) (hn : xs.length = n) (hs : SlC w a n cap xs) (hn2 : n ≤ 1000) (hm : ys.length = n2) (ht : Sl w b ys) (hm2 : n2 ≤ 1000) :
    Calls Try.prog 35 #[.slice a n cap, .slice b n2 cap2] w fun e w' => RetN w (joinL xs ys) e w' := by
  obtain ⟨i1, hi1, hy0, hy1, hy2⟩ := info_parts info_int
  have HT := hide ht
  have HN := hide hn
  have HM2 := hide hm
  have hE := own_emptyI w w.heap.size (Nat.le_refl _)
  have HEM := hide hE
  have rest : Hid (∀ (w1 : World), True → True) := fun _ _ => trivial
  clear ht hn hm hE rest
  cases a with
  | none =>
    obtain rfl : n = 0 := by have := hs.nil rfl; have := hs.le; omega
    obtain rfl : cap = 0 := hs.nil rfl
    obtain rfl : xs = [] := List.eq_nil_of_length_eq_zero HN.out
    have HS := hide hs
    clear hs
    go_enter Try.func35, Try.ntmps35
    go_wp2_with fail
    try go_simp
    try go_wp2_with fail
    go_loopw [5, 13] (fun ot i wr => ∃ k : Nat, k ≤ n2 ∧ i = .int .i64 k ∧ wr.ownsRow w.heap.size 3 1 ot (joinL [] (ys.take k)).length ((joinL [] (ys.take k)).map (Value.int .i64)) ∧ Below w.heap.size w wr) (fun _ i _ => n2 - (intOf i).toNat)
    case atStart => exact ⟨0, Nat.zero_le _, rfl, HEM.out, (Below.refl _ _).alloc (Nat.le_refl _) _⟩
    case round =>
      obtain ⟨k, hk, rfl, hown, hbel⟩ := hrel
      obtain ⟨oa, ocap, rfl⟩ := own_shapeT hown
      by_cases hlt : k < n2
      · obtain ⟨b1, off, rfl, hc0⟩ := HT.out k (by rw [HM2.out]; exact hlt)
        have hc := (hbel.cell (p := ⟨b1, off + k, none⟩) (blk_lt hc0)).trans hc0
        have hltI : (k : Int) < (n2 : Int) := by omega
        have htk := joinL_snoc [] ys k (by rw [HM2.out]; exact hlt)
        obtain ⟨x, hx⟩ : ∃ x, x = ys.getD k 0 := ⟨_, rfl⟩
        rw [← hx] at hc htk
        have hml := joinL_len [] ys k
        have HTK := hide htk
        have HO := hide hown
        have B0 := hide hbel
        have hxl := HN.out
        have HML : Hid ((joinL [] (ys.take k)).length ≤ 4000) := by refine hide ?_; first | omega | (simp only [List.length_nil] at hml hxl; omega)
        clear hc0 hx htk hown hbel hml hxl
        go_wp2_with fail
        refine (put_any _ (joinL [] (ys.take k)) x w.heap.size _ B0.out.size HML.out HO.out).mono ?_
        rintro e w2 ⟨v2, rfl, ho2, hb2⟩
        obtain ⟨oa2, ocap2, rfl⟩ := own_shapeT (show World.ownsRow _ _ _ _ _ _ _ from ho2)
        have O2 := hide ho2
        have B2 := hide (B0.out.trans (hb2.mono B0.out.size))
        clear ho2 hb2
        go_wp2
        go_roundw
        case rel => exact ⟨k + 1, by omega, by go_num, by rw [HTK.out]; exact O2.out, B2.out⟩
        case measure => simp [intOf]; omega
      · obtain rfl : k = n2 := by omega
        have e1 : ys.take k = ys := List.take_of_length_le (by rw [HM2.out]; exact Nat.le_refl _)
        rw [e1] at hown ⊢
        have HO := hide hown
        have hltI : ¬ (k : Int) < (k : Int) := by omega
        clear e1 hown
        go_wp2
        go_ret
        exact ⟨_, rfl, HO.out, hbel⟩
  | some xa =>
    obtain ⟨ab, ao, asp⟩ := xa
    have HS := hide hs
    clear hs
    go_enter Try.func35, Try.ntmps35
    go_wp2_with (first
      | (at_builtin; refine wpList_append_own _ rfl _ _ 23 rfl w.heap.size 3 i1 (.int .i64 0) 1 8 Try.underlying23 hi1 hy0 hy1 hy2 rfl (by decide) _ _ _ rfl HEM.out ⟨ab, ao, asp⟩ n cap (xs.map (Value.int .i64)) rfl (by have := HN.out; simp; omega) (sl_any (HS.out.sl.below ((Below.refl _ _).alloc (Nat.le_refl _) _))) (ints_one _) (by unfold maxLen; omega) (by omega) (by simp) ?_)
      | go_in)
    intro v1 w1 hown1 hgrow1 _
    have hb1 : Below w.heap.size w w1 := ((Below.refl _ _).alloc (Nat.le_refl _) _).grown hgrow1 (by simp) (fun g hg => (HEM.out.lt g hg).1)
    have O1 : Hid (w1.ownsRow w.heap.size 3 1 v1 xs.length (xs.map (Value.int .i64))) := by refine hide ?_; rw [HN.out]; simpa using hown1
    have B1 := hide hb1
    clear hown1 hgrow1 hb1
    go_wp2_with fail
    go_loopw [5, 13] (fun ot i wr => ∃ k : Nat, k ≤ n2 ∧ i = .int .i64 k ∧ wr.ownsRow w.heap.size 3 1 ot (joinL xs (ys.take k)).length ((joinL xs (ys.take k)).map (Value.int .i64)) ∧ Below w.heap.size w wr) (fun _ i _ => n2 - (intOf i).toNat)
    case atStart => exact ⟨0, Nat.zero_le _, rfl, O1.out, B1.out⟩
    case round =>
      obtain ⟨k, hk, rfl, hown, hbel⟩ := hrel
      obtain ⟨oa, ocap, rfl⟩ := own_shapeT hown
      by_cases hlt : k < n2
      · obtain ⟨b1, off, rfl, hc0⟩ := HT.out k (by rw [HM2.out]; exact hlt)
        have hc := (hbel.cell (p := ⟨b1, off + k, none⟩) (blk_lt hc0)).trans hc0
        have hltI : (k : Int) < (n2 : Int) := by omega
        have htk := joinL_snoc xs ys k (by rw [HM2.out]; exact hlt)
        obtain ⟨x, hx⟩ : ∃ x, x = ys.getD k 0 := ⟨_, rfl⟩
        rw [← hx] at hc htk
        have hml := joinL_len xs ys k
        have HTK := hide htk
        have HO := hide hown
        have B0 := hide hbel
        have hxl := HN.out
        have HML : Hid ((joinL xs (ys.take k)).length ≤ 4000) := by refine hide ?_; first | omega | (simp only [List.length_nil] at hml hxl; omega)
        clear hc0 hx htk hown hbel hml hxl
        go_wp2_with fail
        refine (put_any _ (joinL xs (ys.take k)) x w.heap.size _ B0.out.size HML.out HO.out).mono ?_
        rintro e w2 ⟨v2, rfl, ho2, hb2⟩
        obtain ⟨oa2, ocap2, rfl⟩ := own_shapeT (show World.ownsRow _ _ _ _ _ _ _ from ho2)
        have O2 := hide ho2
        have B2 := hide (B0.out.trans (hb2.mono B0.out.size))
        clear ho2 hb2
        go_wp2
        go_roundw
        case rel => exact ⟨k + 1, by omega, by go_num, by rw [HTK.out]; exact O2.out, B2.out⟩
        case measure => simp [intOf]; omega
      · obtain rfl : k = n2 := by omega
        have e1 : ys.take k = ys := List.take_of_length_le (by rw [HM2.out]; exact Nat.le_refl _)
        rw [e1] at hown ⊢
        have HO := hide hown
        have hltI : ¬ (k : Int) < (k : Int) := by omega
        clear e1 hown
        go_wp2
        go_ret
        exact ⟨_, rfl, HO.out, hbel⟩
end Go.Proofs.Ythicdnkngpiccab.L4
