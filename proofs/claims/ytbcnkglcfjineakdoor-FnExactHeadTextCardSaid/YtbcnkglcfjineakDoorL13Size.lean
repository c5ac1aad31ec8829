/-
  Contracts of the laws' own helpers szSampleS, szRow, szRowS, szHead: what is left of a number when lengths are taken off, -1 where they are too long.
-/
import Derived.Test.YtbcnkglcfjineakDoorL13Mem
namespace Go.Proofs.YtbcnkglcfjineakDoor.L13
open Go.RowKit L1
set_option linter.unusedVariables false

/-- The lengths of all texts and lists. -/
def szr : List Rw → Nat
  | [] => 0
  | p :: l => (p.nm.size + p.l.length) + szr l
theorem szr_append : ∀ l m : List Rw, szr (l ++ m) = szr l + szr m
  | [], m => by simp [szr]
  | p :: l, m => by simp [szr, szr_append l m]; omega
theorem szr_take (l : List Rw) (k : Nat) (hk : k < l.length) : szr (l.take (k + 1)) = szr (l.take k) + ((l.getD k eR).nm.size + (l.getD k eR).l.length) := by
  rw [List.take_succ_eq_append_getElem hk, szr_append]
  simp [szr, List.getD, List.getElem?_eq_getElem hk]
theorem szr_le (l : List Rw) (k : Nat) : szr (l.take k) ≤ szr l := by
  have h : l = l.take k ++ l.drop k := (List.take_append_drop k l).symm
  have := szr_append (l.take k) (l.drop k)
  rw [← h] at this
  omega
theorem szr_get (l : List Rw) (k : Nat) (h : k < l.length) : (l.getD k eR).nm.size + (l.getD k eR).l.length ≤ szr l := by
  have h1 := szr_take l k h
  have h2 := szr_le l (k + 1)
  omega
/-- What rows weigh. -/
def wtR (l : List Rw) : Nat := l.length + szr l

set_option maxRecDepth 100000 in
set_option maxHeartbeats 400000 in
theorem szSampleS_any (a : Option Addr) (n cap : Nat) (L : Int) (w : World) (hm : n ≤ 9223372036854775807) (h0 : 0 ≤ L) (h1 : L ≤ 1048576) (r : Int) (hr : r = if (n : Int) ≤ L then L - (n : Int) else -1) :
    Calls Tryd.prog 71 #[.slice a n cap, .int .i64 L] w fun e w' => e = .returned (.int .i64 r) ∧ w = w' := by
  have HR := hide hr
  clear hr
  by_cases ha : L - (n : Int) < 0
  · go_enter Tryd.func71, Tryd.ntmps71
    go_wp2
    go_ret
    exact ⟨by rw [HR.out, if_neg (by omega)]; rfl, rfl⟩
  · go_enter Tryd.func71, Tryd.ntmps71
    go_wp2
    go_ret
    exact ⟨by rw [HR.out, if_pos (by omega)]; rfl, rfl⟩

set_option maxRecDepth 100000 in
set_option maxHeartbeats 1000000 in
theorem szRow_any (s : ByteArray) (a : Option Addr) (n cap : Nat) (L : Int) (w : World) (hs : s.size ≤ 9223372036854775807) (hm : n ≤ 9223372036854775807) (h0 : 0 ≤ L) (h1 : L ≤ 1048576) (r : Int) (hr : r = if ((s.size + n : Nat) : Int) ≤ L then L - ((s.size + n : Nat) : Int) else -1) :
    Calls Tryd.prog 55 #[.agg #[.string s, .slice a n cap], .int .i64 L] w fun e w' => e = .returned (.int .i64 r) ∧ Below w.heap.size w w' := by
  have HR := hide hr
  clear hr
  by_cases ha : L - (s.size : Int) < 0
  · go_enter Tryd.func55, Tryd.ntmps55
    go_wp2
    go_ret
    exact ⟨by rw [HR.out, if_neg (by omega)]; rfl, (Below.refl _ _).alloc (Nat.le_refl _) _⟩
  · by_cases hb : (n : Int) ≤ L - (s.size : Int)
    · obtain ⟨d, hd⟩ : ∃ d, d = L - (s.size : Int) - (n : Int) := ⟨_, rfl⟩
      have C := hide (fun w => szSampleS_any a n cap (L - (s.size : Int)) w hm (by omega) (by omega) d (by rw [if_pos hb]; exact hd))
      have E : Hid (r = d) := by show r = d; rw [HR.out, if_pos (by omega)]; omega
      have hd0 : ¬ d < 0 := by omega
      clear hb hd HR
      go_enter Tryd.func55, Tryd.ntmps55
      go_wp2_with fail
      refine (C.out _).mono ?_
      rintro e w1 ⟨rfl, rfl⟩
      go_wp2
      go_ret
      exact ⟨by rw [E.out]; rfl, (Below.refl _ _).alloc (Nat.le_refl _) _⟩
    · have C := hide (fun w => szSampleS_any a n cap (L - (s.size : Int)) w hm (by omega) (by omega) (-1) (by rw [if_neg hb]))
      have E : Hid (r = -1) := by show r = -1; rw [HR.out, if_neg (by omega)]
      clear hb HR
      go_enter Tryd.func55, Tryd.ntmps55
      go_wp2_with fail
      refine (C.out _).mono ?_
      rintro e w1 ⟨rfl, rfl⟩
      go_wp2
      go_ret
      exact ⟨by rw [E.out]; rfl, (Below.refl _ _).alloc (Nat.le_refl _) _⟩

set_option maxRecDepth 100000 in
set_option maxHeartbeats 2000000 in
theorem szRowS_any (a : Option Addr) (l : List Rw) (n cap : Nat) (L : Int) (w : World) (hn : l.length = n) (hm : n ≤ 9223372036854775807) (hs : SlR w a l) (hst : TxR l) (h0 : 0 ≤ L) (h1 : L ≤ 1048576) (r : Int) (hr : r = if (wtR l : Int) ≤ L then L - (wtR l : Int) else -1) :
    Calls Tryd.prog 30 #[.slice a n cap, .int .i64 L] w fun e w' => e = .returned (.int .i64 r) ∧ Below w.heap.size w w' := by
  have HR := hide hr
  have HS := hide hs
  have HN := hide hn
  have HST := hide hst
  clear hr hs hn hst
  have HW : Hid (wtR l = n + szr l) := by show wtR l = n + szr l; unfold wtR; rw [HN.out]
  by_cases ha : L - (n : Int) < 0
  · go_enter Tryd.func30, Tryd.ntmps30
    go_wp2
    go_ret
    exact ⟨by rw [HR.out, HW.out, if_neg (by omega)]; rfl, Below.refl _ _⟩
  · go_enter Tryd.func30, Tryd.ntmps30
    go_wp2
    go_loopw [1, 5] (fun t i wr => ∃ k : Nat, k ≤ n ∧ i = .int .i64 k ∧ t = .int .i64 (L - (n : Int) - (szr (l.take k) : Int)) ∧ Hid ((szr (l.take k) : Int) ≤ L - (n : Int)) ∧ Below w.heap.size w wr) (fun _ i _ => n - (intOf i).toNat)
    case atStart => exact ⟨0, Nat.zero_le _, rfl, by simp [szr], by show (szr (l.take 0) : Int) ≤ L - (n : Int); simp [szr]; omega, Below.refl _ _⟩
    case round =>
      obtain ⟨k, hk, rfl, rfl, HK, hbel⟩ := hrel
      by_cases hlt : k < n
      · obtain ⟨b, off, rfl, ai, ci, hat0⟩ := HS.out k (by rw [HN.out]; exact hlt)
        have hat : AtR wr b (off + k * 2) (gr l k) ai ci :=
          ⟨(hbel.cell (p := ⟨b, off + k * 2, none⟩) (blk_lt hat0.s)).trans hat0.s, (hbel.cell (p := ⟨b, off + k * 2 + 1, none⟩) (blk_lt hat0.s)).trans hat0.x, hat0.l.below hbel⟩
        have hltI : (k : Int) < (n : Int) := by omega
        have hsx := HST.out k (by rw [HN.out]; exact hlt)
        have htk := szr_take l k (by rw [HN.out]; exact hlt)
        have hle := szr_le l (k + 1)
        have hc2 := hat.s
        have hc3 := hat.x
        obtain ⟨p, hp⟩ : ∃ p, p = gr l k := ⟨_, rfl⟩
        rw [← hp] at hc2 hc3 hsx
        rw [show l.getD k eR = p from hp.symm] at htk
        obtain ⟨s, x⟩ := p
        simp only at hc2 hc3 hsx htk
        obtain ⟨m, hm2⟩ : ∃ m, m = x.length := ⟨_, rfl⟩
        rw [← hm2] at hc3 hsx htk
        obtain ⟨c, hcc⟩ : ∃ c, c = L - (n : Int) - (szr (l.take k) : Int) := ⟨_, rfl⟩
        have hc0 : 0 ≤ c := by have := HK.out; omega
        have hc1' : c ≤ 1048576 := by omega
        rw [← hcc]
        have C0 := hide (fun w r hr => szRow_any s ai m ci c w hsx.1 hsx.2 hc0 hc1' r hr)
        have HC := hide hcc
        have HTK := hide htk
        have HLE := hide hle
        have B0 := hide hbel
        clear hp hm2 hcc htk hle hbel hat hat0 hsx
        by_cases hfit : ((s.size + m : Nat) : Int) ≤ c
        · obtain ⟨d, hd'⟩ : ∃ d, d = c - ((s.size + m : Nat) : Int) := ⟨_, rfl⟩
          have C := hide (fun w => C0.out w d (by rw [if_pos hfit]; exact hd'))
          have hd0 : ¬ d < 0 := by omega
          have HD := hide hd'
          clear hd' C0
          go_wp2_with fail
          refine (C.out _).mono ?_
          rintro e w1 ⟨rfl, hb1⟩
          have B1 := hide (B0.out.trans (hb1.mono B0.out.size))
          clear hb1
          go_wp2
          go_roundw
          case rel => exact ⟨k + 1, by omega, by go_num, by rw [HD.out, HC.out, HTK.out]; go_num, by show (szr (l.take (k + 1)) : Int) ≤ L - (n : Int); have := HC.out; have := HTK.out; omega, B1.out⟩
          case measure => simp [intOf]; omega
        · have C := hide (fun w => C0.out w (-1) (by rw [if_neg hfit]))
          have E : Hid (r = -1) := by show r = -1; have := HC.out; have := HTK.out; have := HLE.out; rw [HR.out, HW.out, if_neg (by omega)]
          clear hfit C0
          go_wp2_with fail
          refine (C.out _).mono ?_
          rintro e w1 ⟨rfl, hb1⟩
          have B1 := hide (B0.out.trans (hb1.mono B0.out.size))
          clear hb1
          go_wp2
          go_ret
          exact ⟨by rw [E.out]; rfl, B1.out⟩
      · obtain rfl : k = n := by omega
        have hltI : ¬ (k : Int) < (k : Int) := by omega
        have e1 : l.take k = l := List.take_of_length_le (by rw [HN.out]; exact Nat.le_refl _)
        rw [e1] at HK ⊢
        have E : Hid (r = L - (k : Int) - (szr l : Int)) := by show r = _; have := HK.out; rw [HR.out, HW.out, if_pos (by omega)]; omega
        clear e1
        go_wp2
        go_ret
        exact ⟨by rw [E.out]; rfl, hbel⟩

set_option maxRecDepth 100000 in
set_option maxHeartbeats 1000000 in
theorem szHead_any (a : Option Addr) (l : List Rw) (n cap : Nat) (B : Int) (L : Int) (w : World) (hn : l.length = n) (hm : n ≤ 9223372036854775807) (hs : SlR w a l) (hst : TxR l) (h0 : 0 ≤ L) (h1 : L ≤ 1048576) (r : Int) (hr : r = if (wtR l : Int) ≤ L then L - (wtR l : Int) else -1) :
    Calls Tryd.prog 14 #[.agg #[.slice a n cap, .int .i64 B], .int .i64 L] w fun e w' => e = .returned (.int .i64 r) ∧ Below w.heap.size w w' := by
  have C := hide (fun w (hs : SlR w a l) => szRowS_any a l n cap L w hn hm hs hst h0 h1 r hr)
  have HS := hide hs
  have hE : r = -1 ∨ 0 ≤ r := by rw [hr]; split <;> omega
  clear hs hn hst hr
  rcases hE with rfl | hr0
  · go_enter Tryd.func14, Tryd.ntmps14
    go_wp2_with fail
    refine (C.out _ (HS.out.below ((Below.refl _ _).alloc (Nat.le_refl _) _))).mono ?_
    rintro e w1 ⟨rfl, hb1⟩
    have B1 := hide (((Below.refl w.heap.size w).alloc (Nat.le_refl _) _).trans (hb1.mono (by simp)))
    clear hb1
    go_wp2
    go_ret
    exact ⟨rfl, B1.out⟩
  · have hr1 : ¬ r < 0 := by omega
    go_enter Tryd.func14, Tryd.ntmps14
    go_wp2_with fail
    refine (C.out _ (HS.out.below ((Below.refl _ _).alloc (Nat.le_refl _) _))).mono ?_
    rintro e w1 ⟨rfl, hb1⟩
    have B1 := hide (((Below.refl w.heap.size w).alloc (Nat.le_refl _) _).trans (hb1.mono (by simp)))
    clear hb1
    go_wp2
    go_ret
    exact ⟨rfl, B1.out⟩
end Go.Proofs.YtbcnkglcfjineakDoor.L13
