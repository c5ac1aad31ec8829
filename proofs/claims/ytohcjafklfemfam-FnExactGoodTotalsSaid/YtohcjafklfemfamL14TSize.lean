/-
  Contracts of the laws' own helpers szTotal, szTotalS: what is left of a number when lengths are taken off, -1 where they are too long.
-/
import Derived.Test.YtohcjafklfemfamL14TMem
import Derived.Test.YtohcjafklfemfamL3LabSize
namespace Go.Proofs.Ytohcjafklfemfam.L14T
open Go.RowKit L1 L3
set_option linter.unusedVariables false

/-- What all labels weigh. -/
def szr : List Rw → Nat
  | [] => 0
  | p :: l => wt p.l + szr l
theorem szr_append : ∀ l m : List Rw, szr (l ++ m) = szr l + szr m
  | [], m => by simp [szr]
  | p :: l, m => by simp [szr, szr_append l m]; omega
theorem szr_take (l : List Rw) (k : Nat) (hk : k < l.length) : szr (l.take (k + 1)) = szr (l.take k) + wt (l.getD k eR).l := by
  rw [List.take_succ_eq_append_getElem hk, szr_append]
  simp [szr, List.getD, List.getElem?_eq_getElem hk]
theorem szr_le (l : List Rw) (k : Nat) : szr (l.take k) ≤ szr l := by
  have h : l = l.take k ++ l.drop k := (List.take_append_drop k l).symm
  have := szr_append (l.take k) (l.drop k)
  rw [← h] at this
  omega
theorem szr_get (l : List Rw) (k : Nat) (h : k < l.length) : wt (l.getD k eR).l ≤ szr l := by
  have h1 := szr_take l k h
  have h2 := szr_le l (k + 1)
  omega
/-- What some weigh. -/
def wtR (l : List Rw) : Nat := l.length + szr l
theorem wtR_lab (l : List Rw) (k : Nat) (h : k < l.length) (H : wtR l ≤ 1048576) : (gr l k).l.length ≤ 1048576 ∧ ∀ j, j < (gr l k).l.length → ((gr l k).l.getD j eL).1.size ≤ 1048576 ∧ ((gr l k).l.getD j eL).2.size ≤ 1048576 := by
  have h1 := szr_get l k h
  unfold wtR at H
  unfold wt at h1
  refine ⟨by show (l.getD k eR).l.length ≤ _; omega, fun j hj => ?_⟩
  have h2 := szs_get (gr l k).l j hj
  have h3 : szs (gr l k).l = szs (l.getD k eR).l := rfl
  omega

set_option maxRecDepth 100000 in
set_option maxHeartbeats 1000000 in
theorem szTotal_any (a : Option Addr) (l : List Lb) (n cap : Nat) (v0 v1 v2 v3 : Int) (L : Int) (w : World) (hn : l.length = n) (hm : n ≤ 9223372036854775807) (hs : SlL w a l) (hst : TxB l) (h0 : 0 ≤ L) (h1 : L ≤ 1048576) (r : Int) (hr : r = if (wt l : Int) ≤ L then L - (wt l : Int) else -1) :
    Calls Try.prog 33 #[.agg #[.slice a n cap, .int .i64 v0, .int .i64 v1, .int .i64 v2, .int .i64 v3], .int .i64 L] w fun e w' => e = .returned (.int .i64 r) ∧ Below w.heap.size w w' := by
  have C := hide (fun w (hs : SlL w a l) => szLabelS_any a l n cap L w hn hm hs hst h0 h1 r hr)
  have HS := hide hs
  have hE : r = -1 ∨ 0 ≤ r := by rw [hr]; split <;> omega
  clear hs hn hst hr
  rcases hE with rfl | hr0
  · go_enter Try.func33, Try.ntmps33
    go_wp2_with fail
    refine (C.out _ (HS.out.below ((Below.refl _ _).alloc (Nat.le_refl _) _))).mono ?_
    rintro e w1 ⟨rfl, hb1⟩
    have B1 := hide (((Below.refl w.heap.size w).alloc (Nat.le_refl _) _).trans (hb1.mono (by simp)))
    clear hb1
    go_wp2
    go_ret
    exact ⟨rfl, B1.out⟩
  · have hr1 : ¬ r < 0 := by omega
    go_enter Try.func33, Try.ntmps33
    go_wp2_with fail
    refine (C.out _ (HS.out.below ((Below.refl _ _).alloc (Nat.le_refl _) _))).mono ?_
    rintro e w1 ⟨rfl, hb1⟩
    have B1 := hide (((Below.refl w.heap.size w).alloc (Nat.le_refl _) _).trans (hb1.mono (by simp)))
    clear hb1
    go_wp2
    go_ret
    exact ⟨rfl, B1.out⟩

set_option maxRecDepth 100000 in
set_option maxHeartbeats 2000000 in
theorem szTotalS_any (a : Option Addr) (l : List Rw) (n cap : Nat) (L : Int) (w : World) (hn : l.length = n) (hm : n ≤ 9223372036854775807) (hs : SlR w a l) (hst : TxR l) (h0 : 0 ≤ L) (h1 : L ≤ 1048576) (r : Int) (hr : r = if (wtR l : Int) ≤ L then L - (wtR l : Int) else -1) :
    Calls Try.prog 8 #[.slice a n cap, .int .i64 L] w fun e w' => e = .returned (.int .i64 r) ∧ Below w.heap.size w w' := by
  have HR := hide hr
  have HS := hide hs
  have HN := hide hn
  have HST := hide hst
  clear hr hs hn hst
  have HW : Hid (wtR l = n + szr l) := by show wtR l = n + szr l; unfold wtR; rw [HN.out]
  by_cases ha : L - (n : Int) < 0
  · go_enter Try.func8, Try.ntmps8
    go_wp2
    go_ret
    exact ⟨by rw [HR.out, HW.out, if_neg (by omega)]; rfl, Below.refl _ _⟩
  · go_enter Try.func8, Try.ntmps8
    go_wp2
    go_loopw [1, 5] (fun t i wr => ∃ k : Nat, k ≤ n ∧ i = .int .i64 k ∧ t = .int .i64 (L - (n : Int) - (szr (l.take k) : Int)) ∧ Hid ((szr (l.take k) : Int) ≤ L - (n : Int)) ∧ Below w.heap.size w wr) (fun _ i _ => n - (intOf i).toNat)
    case atStart => exact ⟨0, Nat.zero_le _, rfl, by simp [szr], by show (szr (l.take 0) : Int) ≤ L - (n : Int); simp [szr]; omega, Below.refl _ _⟩
    case round =>
      obtain ⟨k, hk, rfl, rfl, HK, hbel⟩ := hrel
      by_cases hlt : k < n
      · obtain ⟨b, off, rfl, ai, ci, hat⟩ := HS.out.below hbel k (by rw [HN.out]; exact hlt)
        have hltI : (k : Int) < (n : Int) := by omega
        have hsx := HST.out k (by rw [HN.out]; exact hlt)
        have htk := szr_take l k (by rw [HN.out]; exact hlt)
        have hle := szr_le l (k + 1)
        obtain ⟨x0, x1, x2, x3, x4, t1⟩ := hat
        obtain ⟨p, hp⟩ : ∃ p, p = gr l k := ⟨_, rfl⟩
        rw [← hp] at x0 x1 x2 x3 x4 t1 hsx
        rw [show l.getD k eR = p from hp.symm] at htk
        obtain ⟨x, v0, v1, v2, v3⟩ := p
        simp only at x0 x1 x2 x3 x4 t1 hsx htk
        obtain ⟨m, hm2⟩ : ∃ m, m = x.length := ⟨_, rfl⟩
        rw [← hm2] at x0 hsx
        obtain ⟨c, hcc⟩ : ∃ c, c = L - (n : Int) - (szr (l.take k) : Int) := ⟨_, rfl⟩
        have hc0 : 0 ≤ c := by have := HK.out; omega
        have hc1' : c ≤ 1048576 := by omega
        rw [← hcc]
        have C0 := hide (fun r hr => szTotal_any ai x m ci v0 v1 v2 v3 c wr hm2.symm hsx.1 t1 hsx.2 hc0 hc1' r hr)
        have HC := hide hcc
        have HTK := hide htk
        have HLE := hide hle
        have B0 := hide hbel
        clear hp hm2 hcc htk hle hbel hsx t1
        by_cases hfit : (wt x : Int) ≤ c
        · obtain ⟨d, hd'⟩ : ∃ d, d = c - (wt x : Int) := ⟨_, rfl⟩
          have C := hide (C0.out d (by rw [if_pos hfit]; exact hd'))
          have hd0 : ¬ d < 0 := by omega
          have HD := hide hd'
          clear hd' C0 hfit
          go_wp2_with fail
          refine C.out.mono ?_
          rintro e w1 ⟨rfl, hb1⟩
          have B1 := hide (B0.out.trans (hb1.mono B0.out.size))
          clear hb1
          go_wp2
          go_roundw
          case rel => exact ⟨k + 1, by omega, by go_num, by rw [HD.out, HC.out, HTK.out]; go_num, by show (szr (l.take (k + 1)) : Int) ≤ L - (n : Int); have := HC.out; have := HTK.out; have := HD.out; omega, B1.out⟩
          case measure => simp [intOf]; omega
        · have C := hide (C0.out (-1) (by rw [if_neg hfit]))
          have E : Hid (r = -1) := by show r = -1; have := HC.out; have := HTK.out; have := HLE.out; rw [HR.out, HW.out, if_neg (by omega)]
          clear hfit C0
          go_wp2_with fail
          refine C.out.mono ?_
          rintro e w1 ⟨rfl, hb1⟩
          have B1 := hide (B0.out.trans (hb1.mono B0.out.size))
          clear hb1
          go_wp2
          go_ret
          exact ⟨by rw [E.out]; rfl, B1.out⟩
      · obtain rfl : k = n := by omega
        have hltI : ¬ (k : Int) < (k : Int) := by omega
        have e1 : l.take k = l := List.take_of_length_le (by rw [HN.out]; exact Nat.le_refl _)
        rw [e1] at HK ⊢
        have E : Hid (r = L - (k : Int) - (szr l : Int)) := by show r = _; have := HK.out; rw [HR.out, HW.out, if_pos (by omega)]; omega
        clear e1
        go_wp2
        go_ret
        exact ⟨by rw [E.out]; rfl, hbel⟩
end Go.Proofs.Ytohcjafklfemfam.L14T
