/-
  Contracts of the laws' own helpers szLabel, szLabelS: what is left of a number when a list's length and its texts' lengths are taken off, -1 where they are too long.
-/
import Derived.Test.YtohcjafklfemfamL3Lab
namespace Go.Proofs.Ytohcjafklfemfam.L3
open Go.RowKit L1
set_option linter.unusedVariables false

/-- The lengths of all texts. -/
def szs : List Lb → Nat
  | [] => 0
  | p :: l => p.1.size + p.2.size + szs l
theorem szs_append : ∀ l m : List Lb, szs (l ++ m) = szs l + szs m
  | [], m => by simp [szs]
  | p :: l, m => by simp [szs, szs_append l m]; omega
theorem szs_take (l : List Lb) (k : Nat) (hk : k < l.length) : szs (l.take (k + 1)) = szs (l.take k) + ((l.getD k eL).1.size + (l.getD k eL).2.size) := by
  rw [List.take_succ_eq_append_getElem hk, szs_append]
  simp [szs, List.getD, List.getElem?_eq_getElem hk]
theorem szs_le (l : List Lb) (k : Nat) : szs (l.take k) ≤ szs l := by
  have h : l = l.take k ++ l.drop k := (List.take_append_drop k l).symm
  have := szs_append (l.take k) (l.drop k)
  rw [← h] at this
  omega
theorem szs_get : ∀ (l : List Lb) (k : Nat), k < l.length → (l.getD k eL).1.size + (l.getD k eL).2.size ≤ szs l
  | [], k, h => by simp at h
  | p :: l, 0, _ => by simp [szs]
  | p :: l, k + 1, h => by
    have := szs_get l k (by simpa using h)
    simp only [List.getD_cons_succ, szs]
    omega
/-- What a list weighs. -/
def wt (l : List Lb) : Nat := l.length + szs l

set_option maxRecDepth 100000 in
set_option maxHeartbeats 400000 in
theorem szLabel_any (x y : ByteArray) (L : Int) (w : World) (hx : x.size ≤ 9223372036854775807) (hy : y.size ≤ 9223372036854775807) (h0 : 0 ≤ L) (h1 : L ≤ 1048576) (r : Int) (hr : r = if ((x.size + y.size : Nat) : Int) ≤ L then L - ((x.size + y.size : Nat) : Int) else -1) :
    Calls Try.prog 77 #[.agg #[.string x, .string y], .int .i64 L] w fun e w' => e = .returned (.int .i64 r) ∧ Below w.heap.size w w' := by
  have HR := hide hr
  clear hr
  by_cases ha : L - (x.size : Int) < 0
  · go_enter Try.func77, Try.ntmps77
    go_wp2
    go_ret
    exact ⟨by rw [HR.out, if_neg (by omega)]; rfl, (Below.refl _ _).alloc (Nat.le_refl _) _⟩
  · by_cases hb : L - (x.size : Int) - (y.size : Int) < 0
    · go_enter Try.func77, Try.ntmps77
      go_wp2
      go_ret
      exact ⟨by rw [HR.out, if_neg (by omega)]; rfl, (Below.refl _ _).alloc (Nat.le_refl _) _⟩
    · have e : L - ((x.size + y.size : Nat) : Int) = L - (x.size : Int) - (y.size : Int) := by omega
      have HE := hide e
      clear e
      go_enter Try.func77, Try.ntmps77
      go_wp2
      go_ret
      exact ⟨by rw [HR.out, if_pos (by omega), HE.out]; rfl, (Below.refl _ _).alloc (Nat.le_refl _) _⟩

set_option maxRecDepth 100000 in
set_option maxHeartbeats 1000000 in
theorem szLabelS_any (a : Option Addr) (l : List Lb) (n cap : Nat) (L : Int) (w : World) (hn : l.length = n) (hm : n ≤ 9223372036854775807) (hs : SlL w a l) (hst : ∀ j, j < l.length → (l.getD j eL).1.size ≤ 9223372036854775807 ∧ (l.getD j eL).2.size ≤ 9223372036854775807) (h0 : 0 ≤ L) (h1 : L ≤ 1048576) (r : Int) (hr : r = if (wt l : Int) ≤ L then L - (wt l : Int) else -1) :
    Calls Try.prog 61 #[.slice a n cap, .int .i64 L] w fun e w' => e = .returned (.int .i64 r) ∧ Below w.heap.size w w' := by
  have HR := hide hr
  have HS := hide hs
  have HN := hide hn
  have HST := hide hst
  clear hr hs hn hst
  have HW : Hid (wt l = n + szs l) := by show wt l = n + szs l; unfold wt; rw [HN.out]
  by_cases ha : L - (n : Int) < 0
  · go_enter Try.func61, Try.ntmps61
    go_wp2
    go_ret
    exact ⟨by rw [HR.out, HW.out, if_neg (by omega)]; rfl, Below.refl _ _⟩
  · go_enter Try.func61, Try.ntmps61
    go_wp2
    go_loopw [1, 5] (fun t i wr => ∃ k : Nat, k ≤ n ∧ i = .int .i64 k ∧ t = .int .i64 (L - (n : Int) - (szs (l.take k) : Int)) ∧ Hid ((szs (l.take k) : Int) ≤ L - (n : Int)) ∧ Below w.heap.size w wr) (fun _ i _ => n - (intOf i).toNat)
    case atStart => exact ⟨0, Nat.zero_le _, rfl, by simp [szs], by show (szs (l.take 0) : Int) ≤ L - (n : Int); simp [szs]; omega, Below.refl _ _⟩
    case round =>
      obtain ⟨k, hk, rfl, rfl, HK, hbel⟩ := hrel
      by_cases hlt : k < n
      · obtain ⟨b, off, rfl, hc0, hd0⟩ := HS.out k (by rw [HN.out]; exact hlt)
        have hc := (hbel.cell (p := ⟨b, off + k * 2, none⟩) (blk_lt hc0)).trans hc0
        have hd := (hbel.cell (p := ⟨b, off + k * 2 + 1, none⟩) (blk_lt hd0)).trans hd0
        have hltI : (k : Int) < (n : Int) := by omega
        have hsx := HST.out k (by rw [HN.out]; exact hlt)
        have htk := szs_take l k (by rw [HN.out]; exact hlt)
        have hle := szs_le l (k + 1)
        obtain ⟨x, hx⟩ : ∃ x, x = (l.getD k eL).1 := ⟨_, rfl⟩
        obtain ⟨y, hy⟩ : ∃ y, y = (l.getD k eL).2 := ⟨_, rfl⟩
        rw [← hx] at hc hsx htk
        rw [← hy] at hd hsx htk
        obtain ⟨c, hcc⟩ : ∃ c, c = L - (n : Int) - (szs (l.take k) : Int) := ⟨_, rfl⟩
        have hc0 : 0 ≤ c := by have := HK.out; omega
        have hc1 : c ≤ 1048576 := by omega
        rw [← hcc]
        have HC := hide hcc
        have HTK := hide htk
        have HLE := hide hle
        have B0 := hide hbel
        clear hx hy hcc htk hle hbel hd0
        by_cases hfit : ((x.size + y.size : Nat) : Int) ≤ c
        · have C := hide (fun w => szLabel_any x y c w hsx.1 hsx.2 hc0 hc1 _ rfl)
          simp only [if_pos hfit] at C
          obtain ⟨d, hd'⟩ : ∃ d, d = c - ((x.size + y.size : Nat) : Int) := ⟨_, rfl⟩
          simp only [← hd'] at C
          have hd0 : ¬ d < 0 := by omega
          have HD := hide hd'
          clear hd' hsx
          go_wp2_with fail
          refine (C.out _).mono ?_
          rintro e w1 ⟨rfl, hb1⟩
          have B1 := hide (B0.out.trans (hb1.mono B0.out.size))
          clear hb1
          go_wp2
          go_roundw
          case rel => exact ⟨k + 1, by omega, by go_num, by rw [HD.out, HC.out, HTK.out]; go_num, by show (szs (l.take (k + 1)) : Int) ≤ L - (n : Int); have := HC.out; have := HTK.out; omega, B1.out⟩
          case measure => simp [intOf]; omega
        · have C := hide (fun w => szLabel_any x y c w hsx.1 hsx.2 hc0 hc1 _ rfl)
          simp only [if_neg hfit] at C
          have E : Hid (r = -1) := by show r = -1; have := HC.out; have := HTK.out; have := HLE.out; rw [HR.out, HW.out, if_neg (by omega)]
          clear hsx hfit
          go_wp2_with fail
          refine (C.out _).mono ?_
          rintro e w1 ⟨rfl, hb1⟩
          have B1 := hide (B0.out.trans (hb1.mono B0.out.size))
          clear hb1
          go_wp2
          go_ret
          exact ⟨by rw [E.out]; rfl, B1.out⟩
      · obtain rfl : k = n := by omega
        have hltI : ¬ (k : Int) < (k : Int) := by omega
        have e1 : l.take k = l := List.take_of_length_le (by rw [HN.out]; exact Nat.le_refl _)
        rw [e1] at HK ⊢
        have E : Hid (r = L - (k : Int) - (szs l : Int)) := by show r = _; have := HK.out; rw [HR.out, HW.out, if_pos (by omega)]; omega
        clear e1
        go_wp2
        go_ret
        exact ⟨by rw [E.out]; rfl, hbel⟩
end Go.Proofs.Ytohcjafklfemfam.L3
