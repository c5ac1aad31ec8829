/-
  Contracts of the laws' own helpers szNote, szNoteS.
-/
import Derived.Test.YthmekhhfihjclagNote
import Derived.Test.YthmekhhfihjclagTriToldSize
namespace Go.Proofs.Ythmekhhfihjclag.Nte
open Go.RowKit L1 Tri
set_option linter.unusedVariables false

set_option maxRecDepth 100000 in
set_option maxHeartbeats 1000000 in
theorem szNote_any (q : Bool) (x z : Int) (y : ByteArray) (L : Int) (w : World) (hy : y.size ≤ 9223372036854775807) (h0 : 0 ≤ L) (h1 : L ≤ 1048576) (r : Int) (hr : r = if (y.size : Int) ≤ L then L - (y.size : Int) else -1) :
    Calls Try.prog 79 #[.agg #[.bool q, .int .i64 x, .int .i64 z, .string y], .int .i64 L] w fun e w' => e = .returned (.int .i64 r) ∧ Below w.heap.size w w' := by
  have C := hide (fun w => szTold_any x z y L w hy h0 h1 r hr)
  by_cases hc : r < 0
  · have hr1 : r = -1 := by
      by_cases ha : (y.size : Int) ≤ L
      · rw [if_pos ha] at hr; omega
      · rw [if_neg ha] at hr; exact hr
    subst hr1
    clear hr
    go_enter Try.func79, Try.ntmps79
    go_wp2_with fail
    refine (C.out _).mono ?_
    rintro e w1 ⟨rfl, hb⟩
    have B := hide (((Below.refl _ _).alloc (Nat.le_refl _) _).trans (hb.mono (by simp)))
    clear hb
    go_wp2
    go_ret
    exact ⟨rfl, B.out⟩
  · clear hr
    go_enter Try.func79, Try.ntmps79
    go_wp2_with fail
    refine (C.out _).mono ?_
    rintro e w1 ⟨rfl, hb⟩
    have B := hide (((Below.refl _ _).alloc (Nat.le_refl _) _).trans (hb.mono (by simp)))
    clear hb
    go_wp2
    go_ret
    exact ⟨rfl, B.out⟩

set_option maxRecDepth 100000 in
set_option maxHeartbeats 1000000 in
theorem szNoteS_any (a : Option Addr) (l : List Nt) (n cap : Nat) (L : Int) (w : World) (hn : l.length = n) (hm : n ≤ 9223372036854775807) (hs : Sl4 w a l) (hst : Tx4 l) (h0 : 0 ≤ L) (h1 : L ≤ 1048576) (r : Int) (hr : r = if (wt4 l : Int) ≤ L then L - (wt4 l : Int) else -1) :
    Calls Try.prog 40 #[.slice a n cap, .int .i64 L] w fun e w' => e = .returned (.int .i64 r) ∧ Below w.heap.size w w' := by
  have HR := hide hr
  have HS := hide hs
  have HN := hide hn
  have HST := hide hst
  clear hr hs hn hst
  have HW : Hid (wt4 l = n + szs4 l) := by show wt4 l = n + szs4 l; unfold wt4; rw [HN.out]
  by_cases ha : L - (n : Int) < 0
  · go_enter Try.func40, Try.ntmps40
    go_wp2
    go_ret
    exact ⟨by rw [HR.out, HW.out, if_neg (by omega)]; rfl, Below.refl _ _⟩
  · go_enter Try.func40, Try.ntmps40
    go_wp2
    go_loopw [1, 5] (fun t i wr => ∃ k : Nat, k ≤ n ∧ i = .int .i64 k ∧ t = .int .i64 (L - (n : Int) - (szs4 (l.take k) : Int)) ∧ Hid ((szs4 (l.take k) : Int) ≤ L - (n : Int)) ∧ Below w.heap.size w wr) (fun _ i _ => n - (intOf i).toNat)
    case atStart => exact ⟨0, Nat.zero_le _, rfl, by simp [szs4], by show (szs4 (l.take 0) : Int) ≤ L - (n : Int); simp [szs4]; omega, Below.refl _ _⟩
    case round =>
      obtain ⟨k, hk, rfl, rfl, HK, hbel⟩ := hrel
      by_cases hlt : k < n
      · obtain ⟨b, off, rfl, hq0, hc0, he0, hd0⟩ := HS.out k (by rw [HN.out]; exact hlt)
        have hqq := (hbel.cell (p := ⟨b, off + k * 4, none⟩) (blk_lt hq0)).trans hq0
        have hc := (hbel.cell (p := ⟨b, off + k * 4 + 1, none⟩) (blk_lt hc0)).trans hc0
        have he := (hbel.cell (p := ⟨b, off + k * 4 + 2, none⟩) (blk_lt he0)).trans he0
        have hd := (hbel.cell (p := ⟨b, off + k * 4 + 3, none⟩) (blk_lt hd0)).trans hd0
        have hltI : (k : Int) < (n : Int) := by omega
        have hsx := HST.out k (by rw [HN.out]; exact hlt)
        have htk := szs4_take l k (by rw [HN.out]; exact hlt)
        have hle := szs4_le l (k + 1)
        obtain ⟨q, hqe⟩ : ∃ q, q = (l.getD k e4).1 := ⟨_, rfl⟩
        obtain ⟨x, hx⟩ : ∃ x, x = (l.getD k e4).2.1 := ⟨_, rfl⟩
        obtain ⟨z, hz⟩ : ∃ z, z = (l.getD k e4).2.2.1 := ⟨_, rfl⟩
        obtain ⟨y, hy⟩ : ∃ y, y = (l.getD k e4).2.2.2 := ⟨_, rfl⟩
        rw [← hqe] at hqq
        rw [← hx] at hc
        rw [← hz] at he
        rw [← hy] at hd hsx htk
        obtain ⟨c, hcc⟩ : ∃ c, c = L - (n : Int) - (szs4 (l.take k) : Int) := ⟨_, rfl⟩
        have hc0 : 0 ≤ c := by have := HK.out; omega
        have hc1 : c ≤ 1048576 := by omega
        rw [← hcc]
        have HC := hide hcc
        have HTK := hide htk
        have HLE := hide hle
        have B0 := hide hbel
        clear hqe hx hy hz hcc htk hle hbel hd0 he0 hq0
        by_cases hfit : (y.size : Int) ≤ c
        · have C := hide (fun w => szNote_any q x z y c w hsx hc0 hc1 _ rfl)
          simp only [if_pos hfit] at C
          obtain ⟨d, hd'⟩ : ∃ d, d = c - (y.size : Int) := ⟨_, rfl⟩
          simp only [← hd'] at C
          have hd0 : ¬ d < 0 := by omega
          have HD := hide hd'
          clear hd' hsx
          go_wp2_with fail
          refine (C.out _).mono ?_
          rintro e w1 ⟨rfl, hb1⟩
          have B1 := hide (B0.out.trans (hb1.mono B0.out.size))
          clear hb1
          go_wp2
          go_roundw
          case rel => exact ⟨k + 1, by omega, by go_num, by rw [HD.out, HC.out, HTK.out]; go_num, by show (szs4 (l.take (k + 1)) : Int) ≤ L - (n : Int); have := HC.out; have := HTK.out; omega, B1.out⟩
          case measure => simp [intOf]; omega
        · have C := hide (fun w => szNote_any q x z y c w hsx hc0 hc1 _ rfl)
          simp only [if_neg hfit] at C
          have E : Hid (r = -1) := by show r = -1; have := HC.out; have := HTK.out; have := HLE.out; rw [HR.out, HW.out, if_neg (by omega)]
          clear hsx hfit
          go_wp2_with fail
          refine (C.out _).mono ?_
          rintro e w1 ⟨rfl, hb1⟩
          have B1 := hide (B0.out.trans (hb1.mono B0.out.size))
          clear hb1
          go_wp2
          go_ret
          exact ⟨by rw [E.out]; rfl, B1.out⟩
      · obtain rfl : k = n := by omega
        have hltI : ¬ (k : Int) < (k : Int) := by omega
        have e1 : l.take k = l := List.take_of_length_le (by rw [HN.out]; exact Nat.le_refl _)
        rw [e1] at HK ⊢
        have E : Hid (r = L - (k : Int) - (szs4 l : Int)) := by show r = _; have := HK.out; rw [HR.out, HW.out, if_pos (by omega)]; omega
        clear e1
        go_wp2
        go_ret
        exact ⟨by rw [E.out]; rfl, hbel⟩
end Go.Proofs.Ythmekhhfihjclag.Nte
