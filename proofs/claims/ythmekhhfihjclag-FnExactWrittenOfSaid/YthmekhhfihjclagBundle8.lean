/-
  Contract of the laws' own helper szStringSS.
  Contracts of the laws' own helpers szTold, szToldS.
  Contracts of the laws' own helpers szNote, szNoteS.
  Contract of the laws' own helper szTell.
  Contract of the laws' own helper toStringS.
  Contract of the laws' own helper toStringSS.
  Contracts of the laws' own helpers toTold, toToldS.
  Contracts of the laws' own helpers toNote, toNoteS.
-/
import Derived.Test.YthmekhhfihjclagBundle1
import Derived.Test.YthmekhhfihjclagBundle7
import Derived.Test.YthmekhhfihjclagBundle2
namespace Go.Proofs.Ythmekhhfihjclag.Str
open Go.RowKit L1
set_option linter.unusedVariables false

/-- What lists weigh, but for their number. -/
def wtsS : List (List ByteArray) → Nat
  | [] => 0
  | l :: ls => wtS l + wtsS ls
theorem wtsS_append : ∀ l m : List (List ByteArray), wtsS (l ++ m) = wtsS l + wtsS m
  | [], m => by simp [wtsS]
  | p :: l, m => by simp [wtsS, wtsS_append l m]; omega
theorem wtsS_take (ls : List (List ByteArray)) (k : Nat) (hk : k < ls.length) : wtsS (ls.take (k + 1)) = wtsS (ls.take k) + wtS (ls.getD k []) := by
  rw [List.take_succ_eq_append_getElem hk, wtsS_append]
  simp [wtsS, List.getD, List.getElem?_eq_getElem hk]
theorem wtsS_le (ls : List (List ByteArray)) (k : Nat) : wtsS (ls.take k) ≤ wtsS ls := by
  have h : ls = ls.take k ++ ls.drop k := (List.take_append_drop k ls).symm
  have := wtsS_append (ls.take k) (ls.drop k)
  rw [← h] at this
  omega
theorem wtsS_get (ls : List (List ByteArray)) (k : Nat) (hk : k < ls.length) : wtS (ls.getD k []) ≤ wtsS ls := by
  have h1 := wtsS_take ls k hk
  have h2 := wtsS_le ls (k + 1)
  omega
def wtSS (ls : List (List ByteArray)) : Nat := ls.length + wtsS ls

set_option maxRecDepth 100000 in
set_option maxHeartbeats 2000000 in
theorem szStringSS_any (a : Option Addr) (ls : List (List ByteArray)) (n cap : Nat) (L : Int) (w : World) (hn : ls.length = n) (hm : n ≤ 9223372036854775807) (hs : SlSS w a ls) (hst : TxSS ls) (h0 : 0 ≤ L) (h1 : L ≤ 1048576) (r : Int) (hr : r = if (wtSS ls : Int) ≤ L then L - (wtSS ls : Int) else -1) :
    Calls Try.prog 38 #[.slice a n cap, .int .i64 L] w fun e w' => e = .returned (.int .i64 r) ∧ Below w.heap.size w w' := by
  have HR := hide hr
  have HS := hide hs
  have HN := hide hn
  have HST := hide hst
  clear hr hs hn hst
  have HW : Hid (wtSS ls = n + wtsS ls) := by show wtSS ls = n + wtsS ls; unfold wtSS; rw [HN.out]
  by_cases ha : L - (n : Int) < 0
  · go_enter Try.func38, Try.ntmps38
    go_wp2
    go_ret
    exact ⟨by rw [HR.out, HW.out, if_neg (by omega)]; rfl, Below.refl _ _⟩
  · go_enter Try.func38, Try.ntmps38
    go_wp2
    go_loopw [1, 5] (fun t i wr => ∃ k : Nat, k ≤ n ∧ i = .int .i64 k ∧ t = .int .i64 (L - (n : Int) - (wtsS (ls.take k) : Int)) ∧ Hid ((wtsS (ls.take k) : Int) ≤ L - (n : Int)) ∧ Below w.heap.size w wr) (fun _ i _ => n - (intOf i).toNat)
    case atStart => exact ⟨0, Nat.zero_le _, rfl, by simp [wtsS], by show (wtsS (ls.take 0) : Int) ≤ L - (n : Int); simp [wtsS]; omega, Below.refl _ _⟩
    case round =>
      obtain ⟨k, hk, rfl, rfl, HK, hbel⟩ := hrel
      by_cases hlt : k < n
      · obtain ⟨b, off, rfl, ai, ci, hc0, hs0⟩ := HS.out k (by rw [HN.out]; exact hlt)
        have hc := (hbel.cell (p := ⟨b, off + k, none⟩) (blk_lt hc0)).trans hc0
        have hs1 := hs0.below hbel
        have hltI : (k : Int) < (n : Int) := by omega
        have hsx := HST.out k (by rw [HN.out]; exact hlt)
        have htk := wtsS_take ls k (by rw [HN.out]; exact hlt)
        have hle := wtsS_le ls (k + 1)
        obtain ⟨l, hl⟩ : ∃ l, l = ls.getD k [] := ⟨_, rfl⟩
        rw [← hl] at hc hs1 hsx htk
        obtain ⟨m, hmm⟩ : ∃ m, m = l.length := ⟨_, rfl⟩
        rw [← hmm] at hc hsx
        obtain ⟨c, hcc⟩ : ∃ c, c = L - (n : Int) - (wtsS (ls.take k) : Int) := ⟨_, rfl⟩
        have hc0' : 0 ≤ c := by have := HK.out; omega
        have hc1 : c ≤ 1048576 := by omega
        rw [← hcc]
        have C0 := hide (fun r hr => szStringS_any ai l m ci c wr hmm.symm hsx.1 hs1 hsx.2 hc0' hc1 r hr)
        have HC := hide hcc
        have HTK := hide htk
        have HLE := hide hle
        have B0 := hide hbel
        clear hcc htk hle hbel hl hmm hs1 hs0 hc0 hsx
        by_cases hfit : (wtS l : Int) ≤ c
        · obtain ⟨d, hd'⟩ : ∃ d, d = c - (wtS l : Int) := ⟨_, rfl⟩
          have C := hide (C0.out d (by rw [if_pos hfit]; exact hd'))
          have hd0 : ¬ d < 0 := by omega
          have HD := hide hd'
          clear hd' C0
          go_wp2_with fail
          refine C.out.mono ?_
          rintro e w1 ⟨rfl, hb1⟩
          have B1 := hide (B0.out.trans (hb1.mono B0.out.size))
          clear hb1
          go_wp2
          go_roundw
          case rel => exact ⟨k + 1, by omega, by go_num, by rw [HD.out, HC.out, HTK.out]; go_num, by show (wtsS (ls.take (k + 1)) : Int) ≤ L - (n : Int); have := HC.out; have := HTK.out; omega, B1.out⟩
          case measure => simp [intOf]; omega
        · have C := hide (C0.out (-1) (by rw [if_neg hfit]))
          have E : Hid (r = -1) := by show r = -1; have := HC.out; have := HTK.out; have := HLE.out; rw [HR.out, HW.out, if_neg (by omega)]
          clear hfit C0
          go_wp2_with fail
          refine C.out.mono ?_
          rintro e w1 ⟨rfl, hb1⟩
          have B1 := hide (B0.out.trans (hb1.mono B0.out.size))
          clear hb1
          go_wp2
          go_ret
          exact ⟨by rw [E.out]; rfl, B1.out⟩
      · obtain rfl : k = n := by omega
        have hltI : ¬ (k : Int) < (k : Int) := by omega
        have e1 : ls.take k = ls := List.take_of_length_le (by rw [HN.out]; exact Nat.le_refl _)
        rw [e1] at HK ⊢
        have E : Hid (r = L - (k : Int) - (wtsS ls : Int)) := by show r = _; have := HK.out; rw [HR.out, HW.out, if_pos (by omega)]; omega
        clear e1
        go_wp2
        go_ret
        exact ⟨by rw [E.out]; rfl, hbel⟩

end Go.Proofs.Ythmekhhfihjclag.Str

namespace Go.Proofs.Ythmekhhfihjclag.Tri
open Go.RowKit L1
set_option linter.unusedVariables false

set_option maxRecDepth 100000 in
set_option maxHeartbeats 400000 in
theorem szTold_any (x z : Int) (y : ByteArray) (L : Int) (w : World) (hy : y.size ≤ 9223372036854775807) (h0 : 0 ≤ L) (h1 : L ≤ 1048576) (r : Int) (hr : r = if (y.size : Int) ≤ L then L - (y.size : Int) else -1) :
    Calls Try.prog 80 #[.agg #[.int .i64 x, .int .i64 z, .string y], .int .i64 L] w fun e w' => e = .returned (.int .i64 r) ∧ Below w.heap.size w w' := by
  have HR := hide hr
  clear hr
  by_cases ha : L - (y.size : Int) < 0
  · go_enter Try.func80, Try.ntmps80
    go_wp2
    go_ret
    exact ⟨by rw [HR.out, if_neg (by omega)]; rfl, (Below.refl _ _).alloc (Nat.le_refl _) _⟩
  · go_enter Try.func80, Try.ntmps80
    go_wp2
    go_ret
    exact ⟨by rw [HR.out, if_pos (by omega)]; rfl, (Below.refl _ _).alloc (Nat.le_refl _) _⟩

set_option maxRecDepth 100000 in
set_option maxHeartbeats 1000000 in
theorem szToldS_any (a : Option Addr) (l : List Tr) (n cap : Nat) (L : Int) (w : World) (hn : l.length = n) (hm : n ≤ 9223372036854775807) (hs : Sl3 w a l) (hst : Tx3 l) (h0 : 0 ≤ L) (h1 : L ≤ 1048576) (r : Int) (hr : r = if (wt3 l : Int) ≤ L then L - (wt3 l : Int) else -1) :
    Calls Try.prog 41 #[.slice a n cap, .int .i64 L] w fun e w' => e = .returned (.int .i64 r) ∧ Below w.heap.size w w' := by
  have HR := hide hr
  have HS := hide hs
  have HN := hide hn
  have HST := hide hst
  clear hr hs hn hst
  have HW : Hid (wt3 l = n + szs3 l) := by show wt3 l = n + szs3 l; unfold wt3; rw [HN.out]
  by_cases ha : L - (n : Int) < 0
  · go_enter Try.func41, Try.ntmps41
    go_wp2
    go_ret
    exact ⟨by rw [HR.out, HW.out, if_neg (by omega)]; rfl, Below.refl _ _⟩
  · go_enter Try.func41, Try.ntmps41
    go_wp2
    go_loopw [1, 5] (fun t i wr => ∃ k : Nat, k ≤ n ∧ i = .int .i64 k ∧ t = .int .i64 (L - (n : Int) - (szs3 (l.take k) : Int)) ∧ Hid ((szs3 (l.take k) : Int) ≤ L - (n : Int)) ∧ Below w.heap.size w wr) (fun _ i _ => n - (intOf i).toNat)
    case atStart => exact ⟨0, Nat.zero_le _, rfl, by simp [szs3], by show (szs3 (l.take 0) : Int) ≤ L - (n : Int); simp [szs3]; omega, Below.refl _ _⟩
    case round =>
      obtain ⟨k, hk, rfl, rfl, HK, hbel⟩ := hrel
      by_cases hlt : k < n
      · obtain ⟨b, off, rfl, hc0, he0, hd0⟩ := HS.out k (by rw [HN.out]; exact hlt)
        have hc := (hbel.cell (p := ⟨b, off + k * 3, none⟩) (blk_lt hc0)).trans hc0
        have he := (hbel.cell (p := ⟨b, off + k * 3 + 1, none⟩) (blk_lt he0)).trans he0
        have hd := (hbel.cell (p := ⟨b, off + k * 3 + 2, none⟩) (blk_lt hd0)).trans hd0
        have hltI : (k : Int) < (n : Int) := by omega
        have hsx := HST.out k (by rw [HN.out]; exact hlt)
        have htk := szs3_take l k (by rw [HN.out]; exact hlt)
        have hle := szs3_le l (k + 1)
        obtain ⟨x, hx⟩ : ∃ x, x = (l.getD k e3).1 := ⟨_, rfl⟩
        obtain ⟨z, hz⟩ : ∃ z, z = (l.getD k e3).2.1 := ⟨_, rfl⟩
        obtain ⟨y, hy⟩ : ∃ y, y = (l.getD k e3).2.2 := ⟨_, rfl⟩
        rw [← hx] at hc
        rw [← hz] at he
        rw [← hy] at hd hsx htk
        obtain ⟨c, hcc⟩ : ∃ c, c = L - (n : Int) - (szs3 (l.take k) : Int) := ⟨_, rfl⟩
        have hc0 : 0 ≤ c := by have := HK.out; omega
        have hc1 : c ≤ 1048576 := by omega
        rw [← hcc]
        have HC := hide hcc
        have HTK := hide htk
        have HLE := hide hle
        have B0 := hide hbel
        clear hx hy hz hcc htk hle hbel hd0 he0
        by_cases hfit : (y.size : Int) ≤ c
        · have C := hide (fun w => szTold_any x z y c w hsx hc0 hc1 _ rfl)
          simp only [if_pos hfit] at C
          obtain ⟨d, hd'⟩ : ∃ d, d = c - (y.size : Int) := ⟨_, rfl⟩
          simp only [← hd'] at C
          have hd0 : ¬ d < 0 := by omega
          have HD := hide hd'
          clear hd' hsx
          go_wp2_with fail
          refine (C.out _).mono ?_
          rintro e w1 ⟨rfl, hb1⟩
          have B1 := hide (B0.out.trans (hb1.mono B0.out.size))
          clear hb1
          go_wp2
          go_roundw
          case rel => exact ⟨k + 1, by omega, by go_num, by rw [HD.out, HC.out, HTK.out]; go_num, by show (szs3 (l.take (k + 1)) : Int) ≤ L - (n : Int); have := HC.out; have := HTK.out; omega, B1.out⟩
          case measure => simp [intOf]; omega
        · have C := hide (fun w => szTold_any x z y c w hsx hc0 hc1 _ rfl)
          simp only [if_neg hfit] at C
          have E : Hid (r = -1) := by show r = -1; have := HC.out; have := HTK.out; have := HLE.out; rw [HR.out, HW.out, if_neg (by omega)]
          clear hsx hfit
          go_wp2_with fail
          refine (C.out _).mono ?_
          rintro e w1 ⟨rfl, hb1⟩
          have B1 := hide (B0.out.trans (hb1.mono B0.out.size))
          clear hb1
          go_wp2
          go_ret
          exact ⟨by rw [E.out]; rfl, B1.out⟩
      · obtain rfl : k = n := by omega
        have hltI : ¬ (k : Int) < (k : Int) := by omega
        have e1 : l.take k = l := List.take_of_length_le (by rw [HN.out]; exact Nat.le_refl _)
        rw [e1] at HK ⊢
        have E : Hid (r = L - (k : Int) - (szs3 l : Int)) := by show r = _; have := HK.out; rw [HR.out, HW.out, if_pos (by omega)]; omega
        clear e1
        go_wp2
        go_ret
        exact ⟨by rw [E.out]; rfl, hbel⟩
end Go.Proofs.Ythmekhhfihjclag.Tri

namespace Go.Proofs.Ythmekhhfihjclag.Nte
open Go.RowKit L1 Tri
set_option linter.unusedVariables false

set_option maxRecDepth 100000 in
set_option maxHeartbeats 1000000 in
theorem szNote_any (q : Bool) (x z : Int) (y : ByteArray) (L : Int) (w : World) (hy : y.size ≤ 9223372036854775807) (h0 : 0 ≤ L) (h1 : L ≤ 1048576) (r : Int) (hr : r = if (y.size : Int) ≤ L then L - (y.size : Int) else -1) :
    Calls Try.prog 79 #[.agg #[.bool q, .int .i64 x, .int .i64 z, .string y], .int .i64 L] w fun e w' => e = .returned (.int .i64 r) ∧ Below w.heap.size w w' := by
  have C := hide (fun w => szTold_any x z y L w hy h0 h1 r hr)
  by_cases hc : r < 0
  · have hr1 : r = -1 := by
      by_cases ha : (y.size : Int) ≤ L
      · rw [if_pos ha] at hr; omega
      · rw [if_neg ha] at hr; exact hr
    subst hr1
    clear hr
    go_enter Try.func79, Try.ntmps79
    go_wp2_with fail
    refine (C.out _).mono ?_
    rintro e w1 ⟨rfl, hb⟩
    have B := hide (((Below.refl _ _).alloc (Nat.le_refl _) _).trans (hb.mono (by simp)))
    clear hb
    go_wp2
    go_ret
    exact ⟨rfl, B.out⟩
  · clear hr
    go_enter Try.func79, Try.ntmps79
    go_wp2_with fail
    refine (C.out _).mono ?_
    rintro e w1 ⟨rfl, hb⟩
    have B := hide (((Below.refl _ _).alloc (Nat.le_refl _) _).trans (hb.mono (by simp)))
    clear hb
    go_wp2
    go_ret
    exact ⟨rfl, B.out⟩

set_option maxRecDepth 100000 in
set_option maxHeartbeats 1000000 in
theorem szNoteS_any (a : Option Addr) (l : List Nt) (n cap : Nat) (L : Int) (w : World) (hn : l.length = n) (hm : n ≤ 9223372036854775807) (hs : Sl4 w a l) (hst : Tx4 l) (h0 : 0 ≤ L) (h1 : L ≤ 1048576) (r : Int) (hr : r = if (wt4 l : Int) ≤ L then L - (wt4 l : Int) else -1) :
    Calls Try.prog 40 #[.slice a n cap, .int .i64 L] w fun e w' => e = .returned (.int .i64 r) ∧ Below w.heap.size w w' := by
  have HR := hide hr
  have HS := hide hs
  have HN := hide hn
  have HST := hide hst
  clear hr hs hn hst
  have HW : Hid (wt4 l = n + szs4 l) := by show wt4 l = n + szs4 l; unfold wt4; rw [HN.out]
  by_cases ha : L - (n : Int) < 0
  · go_enter Try.func40, Try.ntmps40
    go_wp2
    go_ret
    exact ⟨by rw [HR.out, HW.out, if_neg (by omega)]; rfl, Below.refl _ _⟩
  · go_enter Try.func40, Try.ntmps40
    go_wp2
    go_loopw [1, 5] (fun t i wr => ∃ k : Nat, k ≤ n ∧ i = .int .i64 k ∧ t = .int .i64 (L - (n : Int) - (szs4 (l.take k) : Int)) ∧ Hid ((szs4 (l.take k) : Int) ≤ L - (n : Int)) ∧ Below w.heap.size w wr) (fun _ i _ => n - (intOf i).toNat)
    case atStart => exact ⟨0, Nat.zero_le _, rfl, by simp [szs4], by show (szs4 (l.take 0) : Int) ≤ L - (n : Int); simp [szs4]; omega, Below.refl _ _⟩
    case round =>
      obtain ⟨k, hk, rfl, rfl, HK, hbel⟩ := hrel
      by_cases hlt : k < n
      · obtain ⟨b, off, rfl, hq0, hc0, he0, hd0⟩ := HS.out k (by rw [HN.out]; exact hlt)
        have hqq := (hbel.cell (p := ⟨b, off + k * 4, none⟩) (blk_lt hq0)).trans hq0
        have hc := (hbel.cell (p := ⟨b, off + k * 4 + 1, none⟩) (blk_lt hc0)).trans hc0
        have he := (hbel.cell (p := ⟨b, off + k * 4 + 2, none⟩) (blk_lt he0)).trans he0
        have hd := (hbel.cell (p := ⟨b, off + k * 4 + 3, none⟩) (blk_lt hd0)).trans hd0
        have hltI : (k : Int) < (n : Int) := by omega
        have hsx := HST.out k (by rw [HN.out]; exact hlt)
        have htk := szs4_take l k (by rw [HN.out]; exact hlt)
        have hle := szs4_le l (k + 1)
        obtain ⟨q, hqe⟩ : ∃ q, q = (l.getD k e4).1 := ⟨_, rfl⟩
        obtain ⟨x, hx⟩ : ∃ x, x = (l.getD k e4).2.1 := ⟨_, rfl⟩
        obtain ⟨z, hz⟩ : ∃ z, z = (l.getD k e4).2.2.1 := ⟨_, rfl⟩
        obtain ⟨y, hy⟩ : ∃ y, y = (l.getD k e4).2.2.2 := ⟨_, rfl⟩
        rw [← hqe] at hqq
        rw [← hx] at hc
        rw [← hz] at he
        rw [← hy] at hd hsx htk
        obtain ⟨c, hcc⟩ : ∃ c, c = L - (n : Int) - (szs4 (l.take k) : Int) := ⟨_, rfl⟩
        have hc0 : 0 ≤ c := by have := HK.out; omega
        have hc1 : c ≤ 1048576 := by omega
        rw [← hcc]
        have HC := hide hcc
        have HTK := hide htk
        have HLE := hide hle
        have B0 := hide hbel
        clear hqe hx hy hz hcc htk hle hbel hd0 he0 hq0
        by_cases hfit : (y.size : Int) ≤ c
        · have C := hide (fun w => szNote_any q x z y c w hsx hc0 hc1 _ rfl)
          simp only [if_pos hfit] at C
          obtain ⟨d, hd'⟩ : ∃ d, d = c - (y.size : Int) := ⟨_, rfl⟩
          simp only [← hd'] at C
          have hd0 : ¬ d < 0 := by omega
          have HD := hide hd'
          clear hd' hsx
          go_wp2_with fail
          refine (C.out _).mono ?_
          rintro e w1 ⟨rfl, hb1⟩
          have B1 := hide (B0.out.trans (hb1.mono B0.out.size))
          clear hb1
          go_wp2
          go_roundw
          case rel => exact ⟨k + 1, by omega, by go_num, by rw [HD.out, HC.out, HTK.out]; go_num, by show (szs4 (l.take (k + 1)) : Int) ≤ L - (n : Int); have := HC.out; have := HTK.out; omega, B1.out⟩
          case measure => simp [intOf]; omega
        · have C := hide (fun w => szNote_any q x z y c w hsx hc0 hc1 _ rfl)
          simp only [if_neg hfit] at C
          have E : Hid (r = -1) := by show r = -1; have := HC.out; have := HTK.out; have := HLE.out; rw [HR.out, HW.out, if_neg (by omega)]
          clear hsx hfit
          go_wp2_with fail
          refine (C.out _).mono ?_
          rintro e w1 ⟨rfl, hb1⟩
          have B1 := hide (B0.out.trans (hb1.mono B0.out.size))
          clear hb1
          go_wp2
          go_ret
          exact ⟨by rw [E.out]; rfl, B1.out⟩
      · obtain rfl : k = n := by omega
        have hltI : ¬ (k : Int) < (k : Int) := by omega
        have e1 : l.take k = l := List.take_of_length_le (by rw [HN.out]; exact Nat.le_refl _)
        rw [e1] at HK ⊢
        have E : Hid (r = L - (k : Int) - (szs4 l : Int)) := by show r = _; have := HK.out; rw [HR.out, HW.out, if_pos (by omega)]; omega
        clear e1
        go_wp2
        go_ret
        exact ⟨by rw [E.out]; rfl, hbel⟩
end Go.Proofs.Ythmekhhfihjclag.Nte

namespace Go.Proofs.Ythmekhhfihjclag.L10
open Go.RowKit L1 Own Str Nte Tri
set_option linter.unusedVariables false

set_option maxRecDepth 100000 in
set_option maxHeartbeats 400000 in
theorem szIntS_any (a : Option Addr) (n cap : Nat) (L : Int) (w : World) (hm : n ≤ 9223372036854775807) (h0 : 0 ≤ L) (h1 : L ≤ 1048576) (r : Int) (hr : r = if (n : Int) ≤ L then L - (n : Int) else -1) :
    Calls Try.prog 39 #[.slice a n cap, .int .i64 L] w fun e w' => e = .returned (.int .i64 r) ∧ w = w' := by
  have HR := hide hr
  clear hr
  by_cases ha : L - (n : Int) < 0
  · go_enter Try.func39, Try.ntmps39
    go_wp2
    go_ret
    exact ⟨by rw [HR.out, if_neg (by omega)]; rfl, rfl⟩
  · go_enter Try.func39, Try.ntmps39
    go_wp2
    go_ret
    exact ⟨by rw [HR.out, if_pos (by omega)]; rfl, rfl⟩
abbrev tlL (aT : Option Addr) (nT cT : Nat) (aH : Option Addr) (nH cH : Nat) (aL : Option Addr) (nL cL : Nat) (aG : Option Addr) (nG cG : Nat) (aN : Option Addr) (nN cN : Nat) : Obj := .cells #[.slice aT nT cT, .slice aH nH cH, .slice aL nL cL, .slice aG nG cG, .slice aN nN cN] 27 (0, 0)
def wtT (m : Tm) : Nat := wtSS m.T + m.hd.length + wt4 m.ln + wt3 m.lg + m.nx.length
theorem tlz_of {m : Tm} (h : wtT m ≤ 1048576) : TlZ m m.T.length m.hd.length m.ln.length m.lg.length m.nx.length := by
  unfold wtT wtSS wt4 wt3 at h
  have hs : ∀ i, i < m.T.length → wtS (m.T.getD i []) ≤ 1048576 := fun i hi => by have := wtsS_get m.T i hi; omega
  refine ⟨rfl, rfl, rfl, rfl, rfl, by omega, by omega, by omega, by omega, by omega, fun i hi => ?_, fun i hi j hj => ?_, fun i hi => ?_, fun i hi => ?_⟩
  · have := hs i hi; unfold wtS at this; omega
  · have := hs i hi; unfold wtS at this; have := szsS_get _ j hj; omega
  · have := szs4_get m.ln i hi; omega
  · have := szs3_get m.lg i hi; omega
set_option maxRecDepth 100000 in
set_option maxHeartbeats 4000000 in
theorem szTell_any (aT : Option Addr) (nT cT : Nat) (aH : Option Addr) (nH cH : Nat) (aL : Option Addr) (nL cL : Nat) (aG : Option Addr) (nG cG : Nat) (aN : Option Addr) (nN cN : Nat) (m : Tm) (w : World) (hT : m.T.length = nT) (hH : m.hd.length = nH) (hL : m.ln.length = nL) (hG : m.lg.length = nG) (hN : m.nx.length = nN) (mT : nT ≤ 9223372036854775807) (mH : nH ≤ 9223372036854775807) (mL : nL ≤ 9223372036854775807) (mG : nG ≤ 9223372036854775807) (mN : nN ≤ 9223372036854775807) (hF : TlF w aT aH aL aG aN m) (xT : TxSS m.T) (xL : Tx4 m.ln) (xG : Tx3 m.lg) (L : Int) (h0 : 0 ≤ L) (h1 : L ≤ 1048576) (r : Int) (hr : r = if (wtT m : Int) ≤ L then L - (wtT m : Int) else -1) :
    Calls Try.prog 9 #[tlV aT nT cT aH nH cH aL nL cL aG nG cG aN nN cN, .int .i64 L] w fun e w' => e = .returned (.int .i64 r) ∧ Below w.heap.size w w' := by
  obtain ⟨q1, hq1⟩ : ∃ q, q = wtSS m.T := ⟨_, rfl⟩
  obtain ⟨q3, hq3⟩ : ∃ q, q = wt4 m.ln := ⟨_, rfl⟩
  obtain ⟨q4, hq4⟩ : ∃ q, q = wt3 m.lg := ⟨_, rfl⟩
  have hw : wtT m = q1 + nH + q3 + q4 + nN := by unfold wtT; rw [hq1, hq3, hq4, hH, hN]
  rw [hw] at hr
  have BX := hide ((Below.refl w.heap.size w).alloc (Nat.le_refl _) (tlL aT nT cT aH nH cH aL nL cL aG nG cG aN nN cN))
  have C1 := hide (fun wx (hb : Below w.heap.size w wx) r hr => szStringSS_any aT m.T nT cT L wx hT mT (hF.t.below hb) xT h0 h1 r hr)
  have C3 := hide (fun wx (hb : Below w.heap.size w wx) L' h0 h1 r hr => szNoteS_any aL m.ln nL cL L' wx hL mL (hF.l.below hb) xL h0 h1 r hr)
  have C4 := hide (fun wx (hb : Below w.heap.size w wx) L' h0 h1 r hr => szToldS_any aG m.lg nG cG L' wx hG mG (hF.g.below hb) xG h0 h1 r hr)
  rw [← hq1] at C1
  rw [← hq3] at C3
  rw [← hq4] at C4
  have HR := hide hr
  clear hr hT hH hL hG hN hF xT xL xG hw hq1 hq3 hq4
  by_cases f1 : (q1 : Int) ≤ L
  · obtain ⟨L1, hL1⟩ : ∃ x, x = L - (q1 : Int) := ⟨_, rfl⟩
    have K1 := hide (fun wx hb => C1.out wx hb L1 (by rw [if_pos f1, hL1]))
    have n1 : ¬ L1 < 0 := by omega
    by_cases f2 : (nH : Int) ≤ L1
    · obtain ⟨L2, hL2⟩ : ∃ x, x = L1 - (nH : Int) := ⟨_, rfl⟩
      have K2 := hide (fun wx => szIntS_any aH nH cH L1 wx (by omega) (by omega) (by omega) L2 (by rw [if_pos f2, hL2]))
      have n2 : ¬ L2 < 0 := by omega
      by_cases f3 : (q3 : Int) ≤ L2
      · obtain ⟨L3, hL3⟩ : ∃ x, x = L2 - (q3 : Int) := ⟨_, rfl⟩
        have K3 := hide (fun wx hb => C3.out wx hb L2 (by omega) (by omega) L3 (by rw [if_pos f3, hL3]))
        have n3 : ¬ L3 < 0 := by omega
        by_cases f4 : (q4 : Int) ≤ L3
        · obtain ⟨L4, hL4⟩ : ∃ x, x = L3 - (q4 : Int) := ⟨_, rfl⟩
          have K4 := hide (fun wx hb => C4.out wx hb L3 (by omega) (by omega) L4 (by rw [if_pos f4, hL4]))
          have n4 : ¬ L4 < 0 := by omega
          by_cases f5 : (nN : Int) ≤ L4
          · obtain ⟨L5, hL5⟩ : ∃ x, x = L4 - (nN : Int) := ⟨_, rfl⟩
            have K5 := hide (fun wx => szIntS_any aN nN cN L4 wx (by omega) (by omega) (by omega) L5 (by rw [if_pos f5, hL5]))
            have n5 : ¬ L5 < 0 := by omega
            have E : Hid (r = L5) := by show r = L5; rw [HR.out, if_pos (by omega)]; omega
            clear hL1 hL2 hL3 hL4 hL5 C1 C3 C4 f1 f2 f3 f4 f5
            go_enter Try.func9, Try.ntmps9
            go_wp2_with fail
            refine (K1.out _ BX.out).mono ?_
            rintro e w1 ⟨rfl, hb⟩
            have GX1 := hide ((hb.block w.heap.size (by simp)).trans (blk_newO w (tlL aT nT cT aH nH cH aL nL cL aG nG cG aN nN cN)))
            have B1 := hide (BX.out.trans (hb.mono BX.out.size))
            clear hb
            obtain ⟨k0, k1, k2, k3, k4⟩ := blk5 GX1.out
            go_wp2_with fail
            refine (K2.out _).mono ?_
            rintro e w2 ⟨rfl, rfl⟩
            go_wp2_with fail
            refine (K3.out _ B1.out).mono ?_
            rintro e w3 ⟨rfl, hb⟩
            have GX3 := hide ((hb.block w.heap.size (Array.getElem?_eq_some_iff.1 GX1.out).1).trans GX1.out)
            have B3 := hide (B1.out.trans (hb.mono B1.out.size))
            clear k0 k1 k2 k3 k4
            clear hb
            obtain ⟨k0, k1, k2, k3, k4⟩ := blk5 GX3.out
            go_wp2_with fail
            refine (K4.out _ B3.out).mono ?_
            rintro e w4 ⟨rfl, hb⟩
            have GX4 := hide ((hb.block w.heap.size (Array.getElem?_eq_some_iff.1 GX3.out).1).trans GX3.out)
            have B4 := hide (B3.out.trans (hb.mono B3.out.size))
            clear k0 k1 k2 k3 k4
            clear hb
            obtain ⟨k0, k1, k2, k3, k4⟩ := blk5 GX4.out
            go_wp2_with fail
            refine (K5.out _).mono ?_
            rintro e w5 ⟨rfl, rfl⟩
            go_wp2
            go_ret
            exact ⟨by rw [E.out]; rfl, B4.out⟩
          · have K5 := hide (fun wx => szIntS_any aN nN cN L4 wx (by omega) (by omega) (by omega) (-1) (by rw [if_neg f5]))
            have E : Hid (r = -1) := by show r = -1; rw [HR.out, if_neg (by omega)]
            clear hL1 hL2 hL3 hL4 C1 C3 C4 f1 f2 f3 f4 f5
            go_enter Try.func9, Try.ntmps9
            go_wp2_with fail
            refine (K1.out _ BX.out).mono ?_
            rintro e w1 ⟨rfl, hb⟩
            have GX1 := hide ((hb.block w.heap.size (by simp)).trans (blk_newO w (tlL aT nT cT aH nH cH aL nL cL aG nG cG aN nN cN)))
            have B1 := hide (BX.out.trans (hb.mono BX.out.size))
            clear hb
            obtain ⟨k0, k1, k2, k3, k4⟩ := blk5 GX1.out
            go_wp2_with fail
            refine (K2.out _).mono ?_
            rintro e w2 ⟨rfl, rfl⟩
            go_wp2_with fail
            refine (K3.out _ B1.out).mono ?_
            rintro e w3 ⟨rfl, hb⟩
            have GX3 := hide ((hb.block w.heap.size (Array.getElem?_eq_some_iff.1 GX1.out).1).trans GX1.out)
            have B3 := hide (B1.out.trans (hb.mono B1.out.size))
            clear k0 k1 k2 k3 k4
            clear hb
            obtain ⟨k0, k1, k2, k3, k4⟩ := blk5 GX3.out
            go_wp2_with fail
            refine (K4.out _ B3.out).mono ?_
            rintro e w4 ⟨rfl, hb⟩
            have GX4 := hide ((hb.block w.heap.size (Array.getElem?_eq_some_iff.1 GX3.out).1).trans GX3.out)
            have B4 := hide (B3.out.trans (hb.mono B3.out.size))
            clear k0 k1 k2 k3 k4
            clear hb
            obtain ⟨k0, k1, k2, k3, k4⟩ := blk5 GX4.out
            go_wp2_with fail
            refine (K5.out _).mono ?_
            rintro e w5 ⟨rfl, rfl⟩
            go_wp2
            go_ret
            exact ⟨by rw [E.out]; rfl, B4.out⟩
        · have K4 := hide (fun wx hb => C4.out wx hb L3 (by omega) (by omega) (-1) (by rw [if_neg f4]))
          have E : Hid (r = -1) := by show r = -1; rw [HR.out, if_neg (by omega)]
          clear hL1 hL2 hL3 C1 C3 C4 f1 f2 f3 f4
          go_enter Try.func9, Try.ntmps9
          go_wp2_with fail
          refine (K1.out _ BX.out).mono ?_
          rintro e w1 ⟨rfl, hb⟩
          have GX1 := hide ((hb.block w.heap.size (by simp)).trans (blk_newO w (tlL aT nT cT aH nH cH aL nL cL aG nG cG aN nN cN)))
          have B1 := hide (BX.out.trans (hb.mono BX.out.size))
          clear hb
          obtain ⟨k0, k1, k2, k3, k4⟩ := blk5 GX1.out
          go_wp2_with fail
          refine (K2.out _).mono ?_
          rintro e w2 ⟨rfl, rfl⟩
          go_wp2_with fail
          refine (K3.out _ B1.out).mono ?_
          rintro e w3 ⟨rfl, hb⟩
          have GX3 := hide ((hb.block w.heap.size (Array.getElem?_eq_some_iff.1 GX1.out).1).trans GX1.out)
          have B3 := hide (B1.out.trans (hb.mono B1.out.size))
          clear k0 k1 k2 k3 k4
          clear hb
          obtain ⟨k0, k1, k2, k3, k4⟩ := blk5 GX3.out
          go_wp2_with fail
          refine (K4.out _ B3.out).mono ?_
          rintro e w4 ⟨rfl, hb⟩
          have GX4 := hide ((hb.block w.heap.size (Array.getElem?_eq_some_iff.1 GX3.out).1).trans GX3.out)
          have B4 := hide (B3.out.trans (hb.mono B3.out.size))
          clear k0 k1 k2 k3 k4
          clear hb
          obtain ⟨k0, k1, k2, k3, k4⟩ := blk5 GX4.out
          go_wp2
          go_ret
          exact ⟨by rw [E.out]; rfl, B4.out⟩
      · have K3 := hide (fun wx hb => C3.out wx hb L2 (by omega) (by omega) (-1) (by rw [if_neg f3]))
        have E : Hid (r = -1) := by show r = -1; rw [HR.out, if_neg (by omega)]
        clear hL1 hL2 C1 C3 C4 f1 f2 f3
        go_enter Try.func9, Try.ntmps9
        go_wp2_with fail
        refine (K1.out _ BX.out).mono ?_
        rintro e w1 ⟨rfl, hb⟩
        have GX1 := hide ((hb.block w.heap.size (by simp)).trans (blk_newO w (tlL aT nT cT aH nH cH aL nL cL aG nG cG aN nN cN)))
        have B1 := hide (BX.out.trans (hb.mono BX.out.size))
        clear hb
        obtain ⟨k0, k1, k2, k3, k4⟩ := blk5 GX1.out
        go_wp2_with fail
        refine (K2.out _).mono ?_
        rintro e w2 ⟨rfl, rfl⟩
        go_wp2_with fail
        refine (K3.out _ B1.out).mono ?_
        rintro e w3 ⟨rfl, hb⟩
        have GX3 := hide ((hb.block w.heap.size (Array.getElem?_eq_some_iff.1 GX1.out).1).trans GX1.out)
        have B3 := hide (B1.out.trans (hb.mono B1.out.size))
        clear k0 k1 k2 k3 k4
        clear hb
        obtain ⟨k0, k1, k2, k3, k4⟩ := blk5 GX3.out
        go_wp2
        go_ret
        exact ⟨by rw [E.out]; rfl, B3.out⟩
    · have K2 := hide (fun wx => szIntS_any aH nH cH L1 wx (by omega) (by omega) (by omega) (-1) (by rw [if_neg f2]))
      have E : Hid (r = -1) := by show r = -1; rw [HR.out, if_neg (by omega)]
      clear hL1 C1 C3 C4 f1 f2
      go_enter Try.func9, Try.ntmps9
      go_wp2_with fail
      refine (K1.out _ BX.out).mono ?_
      rintro e w1 ⟨rfl, hb⟩
      have GX1 := hide ((hb.block w.heap.size (by simp)).trans (blk_newO w (tlL aT nT cT aH nH cH aL nL cL aG nG cG aN nN cN)))
      have B1 := hide (BX.out.trans (hb.mono BX.out.size))
      clear hb
      obtain ⟨k0, k1, k2, k3, k4⟩ := blk5 GX1.out
      go_wp2_with fail
      refine (K2.out _).mono ?_
      rintro e w2 ⟨rfl, rfl⟩
      go_wp2
      go_ret
      exact ⟨by rw [E.out]; rfl, B1.out⟩
  · have K1 := hide (fun wx hb => C1.out wx hb (-1) (by rw [if_neg f1]))
    have E : Hid (r = -1) := by show r = -1; rw [HR.out, if_neg (by omega)]
    clear  C1 C3 C4 f1
    go_enter Try.func9, Try.ntmps9
    go_wp2_with fail
    refine (K1.out _ BX.out).mono ?_
    rintro e w1 ⟨rfl, hb⟩
    have GX1 := hide ((hb.block w.heap.size (by simp)).trans (blk_newO w (tlL aT nT cT aH nH cH aL nL cL aG nG cG aN nN cN)))
    have B1 := hide (BX.out.trans (hb.mono BX.out.size))
    clear hb
    obtain ⟨k0, k1, k2, k3, k4⟩ := blk5 GX1.out
    go_wp2
    go_ret
    exact ⟨by rw [E.out]; rfl, B1.out⟩
end Go.Proofs.Ythmekhhfihjclag.L10

namespace Go.Proofs.Ythmekhhfihjclag.Str
open Go.RowKit L1
set_option linter.unusedVariables false

/-- One round of the copy. -/
theorem copy_roundS {w wr : World} {xs ys : List ByteArray} {m k : Nat} {y : ByteArray} (hx : xs.getD k e0 = y) (hlt : k < m) (hm : xs.length = m) (hl : ys.length = m) (HX : ∀ j, j < k → ys.getD j e0 = xs.getD j e0)
    (hown : wr.ownsRow w.heap.size 9 1 (.slice (some ⟨w.heap.size, 0, none⟩) m m) m (mapS ys)) (hb : Below w.heap.size w wr) :
    ∃ (k' : Nat) (ys' : List ByteArray), k' ≤ m ∧ Value.int .i64 ((k : Int) + 1) = .int .i64 k' ∧ ys'.length = m ∧ Hid (∀ j, j < k' → ys'.getD j e0 = xs.getD j e0) ∧
      (wr.setCell ⟨w.heap.size, k, none⟩ (.string y)).ownsRow w.heap.size 9 1 (.slice (some ⟨w.heap.size, 0, none⟩) m m) m (mapS ys') ∧ Below w.heap.size w (wr.setCell ⟨w.heap.size, k, none⟩ (.string y)) := by
  have hst := hown.stored k (.string y)
  have hb2 := hb.setCell (p := ⟨w.heap.size, k, none⟩) (Nat.le_refl _) (.string y)
  refine ⟨k + 1, ys.set k y, by omega, by simp, by simpa using hl, ?_, by rw [mapS_set]; exact hst.1, hb2⟩
  intro j hj
  by_cases e : j = k
  · subst e
    rw [hx]
    simp [List.getD, hl, hlt]
  · rw [← HX j (by omega)]
    simp [List.getD, Ne.symm e]

set_option maxRecDepth 100000 in
set_option maxHeartbeats 1000000 in
theorem toStringS_any (a : Option Addr) (xs : List ByteArray) (n cap : Nat) (w : World) (hn : xs.length = n) (hs : SlS w a xs) (hn2 : n ≤ 1048576) :
    Calls Try.prog 81 #[.slice a n cap] w fun e w' => e = .returned (.slice (some ⟨w.heap.size, 0, none⟩) n n) ∧
      w'.ownsRow w.heap.size 9 1 (.slice (some ⟨w.heap.size, 0, none⟩) n n) n (mapS xs) ∧ Below w.heap.size w w' := by
  obtain ⟨i0, hi, hz0, hz1, hz2⟩ := info_parts info_strS
  obtain ⟨w1, hmk, hown1, hg1⟩ := run_make_full (P := Try.prog) w w.heap.size 58 9 i0 (.string ByteArray.empty) 1 Try.underlying58 hi hz0 hz1 .i64 .i64 n (by rw [hz2]; omega) (by unfold maxLen; omega) (Nat.le_refl _)
  rw [made_S] at hown1
  have hb1 : Below w.heap.size w w1 := (Below.refl _ _).grown hg1 (Nat.le_refl _) (fun k hk => by cases hk)
  have HO := hide hown1
  have HS := hide hs
  have HN := hide hn
  clear hown1 hg1 hs hn
  go_enter Try.func81, Try.ntmps81
  go_wp2
  go_loopw [4] (fun i wr => ∃ (k : Nat) (ys : List ByteArray), k ≤ n ∧ i = .int .i64 k ∧ ys.length = n ∧ Hid (∀ j, j < k → ys.getD j e0 = xs.getD j e0) ∧
      wr.ownsRow w.heap.size 9 1 (.slice (some ⟨w.heap.size, 0, none⟩) n n) n (mapS ys) ∧ Below w.heap.size w wr) (fun i _ => n - (intOf i).toNat)
  case atStart => exact ⟨0, List.replicate n e0, Nat.zero_le _, rfl, by simp, fun j hj => absurd hj (Nat.not_lt_zero _), HO, hb1⟩
  case round =>
    obtain ⟨k, ys, hk, rfl, hyl, HX, hown, hbel⟩ := hrel
    have HL := hide hyl
    clear hyl
    by_cases hlt : k < n
    · obtain ⟨b, off, rfl, hc0⟩ := HS.out k (by rw [HN.out]; exact hlt)
      have hc := (hbel.cell (p := ⟨b, off + k, none⟩) (blk_lt hc0)).trans hc0
      have hltI : (k : Int) < (n : Int) := by omega
      obtain ⟨y, hy⟩ : ∃ y, y = xs.getD k e0 := ⟨_, rfl⟩
      rw [← hy] at hc
      have HXY := hide hy.symm
      have hl0 : k < (mapS ys).length := by rw [mapS_len, HL.out]; omega
      have hcl := hown.cellAt k (by have := HL.out; omega)
      have hfr := hown.frozenAt k
      obtain ⟨v, hv⟩ : ∃ v, wr.cell? ⟨w.heap.size, k, none⟩ = some v := ⟨_, hcl.trans (List.getElem?_eq_getElem hl0)⟩
      have R := hide (copy_roundS HXY.out hlt HN.out HL.out HX.out hown hbel)
      clear hcl hl0 hown hbel hc0 hy
      go_wp2
      go_roundw
      case rel => exact R.out
      case measure => simp [intOf]; omega
    · have e : ys = xs := list_sameS HN.out HL.out (fun j hj => HX.out j (by omega))
      subst e
      have hltI : ¬ (k : Int) < (n : Int) := by omega
      go_wp2
      go_ret
      exact ⟨rfl, hown, hbel⟩
end Go.Proofs.Ythmekhhfihjclag.Str

namespace Go.Proofs.Ythmekhhfihjclag.Str
open Go.RowKit L1
set_option linter.unusedVariables false

theorem info_strs : (Try.prog.info? 58).map (fun i => (i.zero, i.size, i.bytes)) = some (some (.slice none 0 0), 1, 24) := by kernel_rfl
theorem own_neS {w : World} {base n cap g c : Nat} {t : TypeId} {a : Option Addr} {xs : List Value} (h : w.ownsRow base t c (.slice a n cap) n xs) (hg : g < base) : (Value.slice a n cap).ownBlock = none ∨ (Value.slice a n cap).ownBlock ≠ some g := by
  cases a with
  | none => exact .inl rfl
  | some x =>
    refine .inr fun e => ?_
    have := (h.lt g e).1
    omega
/-- Lists that the caller owns: a row of slices at block B, each of which has a block of its own behind it, rising. -/
structure OwnSS (w : World) (B : Nat) (ls : List (List ByteArray)) (g : Nat → Nat) (m : Nat) : Prop where
  cell : ∀ i, i < m → w.cell? ⟨B, i, none⟩ = some (.slice (some ⟨g i, 0, none⟩) (ls.getD i []).length (ls.getD i []).length)
  own : ∀ i, i < m → w.ownsRow (B + 1) 9 1 (.slice (some ⟨g i, 0, none⟩) (ls.getD i []).length (ls.getD i []).length) (ls.getD i []).length (mapS (ls.getD i []))
  rise : ∀ i j, i < j → j < m → g i < g j
  lt : ∀ i, i < m → g i < w.heap.size
theorem OwnSS.sl {w : World} {B : Nat} {ls : List (List ByteArray)} {g : Nat → Nat} (h : OwnSS w B ls g ls.length) : SlSS w (some ⟨B, 0, none⟩) ls := fun i hi =>
  ⟨B, 0, rfl, _, _, by simpa using h.cell i hi, own_slS (h.own i hi)⟩
theorem OwnSS.below {w w' : World} {B : Nat} {ls : List (List ByteArray)} {g : Nat → Nat} {m : Nat} (h : OwnSS w B ls g m) (hb : Below w.heap.size w w') : OwnSS w' B ls g m :=
  ⟨fun i hi => (hb.cell (p := ⟨B, i, none⟩) (blk_lt (h.cell i hi))).trans (h.cell i hi), fun i hi => own_belowS (h.own i hi) hb, h.rise, fun i hi => Nat.lt_of_lt_of_le (h.lt i hi) hb.size⟩

set_option maxRecDepth 100000 in
set_option maxHeartbeats 4000000 in
theorem toStringSS_any (a : Option Addr) (ls : List (List ByteArray)) (n cap : Nat) (w : World) (hn : ls.length = n) (hs : SlSS w a ls) (hn2 : n ≤ 1048576) (hls : ∀ i, i < ls.length → (ls.getD i []).length ≤ 1048576) :
    Calls Try.prog 46 #[.slice a n cap] w fun e w' => e = .returned (.slice (some ⟨w.heap.size, 0, none⟩) n n) ∧ ((∃ g, OwnSS w' w.heap.size ls g n) ∧ ∃ vs, w'.ownsRow w.heap.size 58 1 (.slice (some ⟨w.heap.size, 0, none⟩) n n) n vs) ∧ w.heap.size < w'.heap.size ∧ Below w.heap.size w w' := by
  obtain ⟨i0, hi, hz0, hz1, hz2⟩ := info_parts info_strs
  obtain ⟨w1, hmk, hown1, hg1⟩ := run_make_full (P := Try.prog) w w.heap.size 22 58 i0 (.slice none 0 0) 1 Try.underlying22 hi hz0 hz1 .i64 .i64 n (by rw [hz2]; omega) (by unfold maxLen; omega) (Nat.le_refl _)
  have hb1 : Below w.heap.size w w1 := (Below.refl _ _).grown hg1 (Nat.le_refl _) (fun k hk => by cases hk)
  obtain ⟨v0, hv0⟩ : ∃ v0, v0 = (madeCells (Value.slice none 0 0).cells (n * 1)).toList := ⟨_, rfl⟩
  rw [← hv0] at hown1
  have hlt1 : w.heap.size < w1.heap.size := (hown1.lt w.heap.size rfl).2
  have HO := hide hown1
  have HS := hide hs
  have HN := hide hn
  have HLS := hide hls
  clear hown1 hg1 hs hn hls hv0
  go_enter Try.func46, Try.ntmps46
  go_wp2
  go_loopw [4] (fun i wr => ∃ (k : Nat) (vs : List Value) (g : Nat → Nat), k ≤ n ∧ i = .int .i64 k ∧ wr.ownsRow w.heap.size 58 1 (.slice (some ⟨w.heap.size, 0, none⟩) n n) n vs ∧ OwnSS wr w.heap.size ls g k ∧ Below w.heap.size w wr) (fun i _ => n - (intOf i).toNat)
  case atStart => exact ⟨0, v0, fun _ => 0, Nat.zero_le _, rfl, HO, ⟨fun i hi => absurd hi (Nat.not_lt_zero _), fun i hi => absurd hi (Nat.not_lt_zero _), fun i j _ hj => absurd hj (Nat.not_lt_zero _), fun i hi => absurd hi (Nat.not_lt_zero _)⟩, hb1⟩
  case round =>
    obtain ⟨k, vs, g, hk, rfl, hown, hos, hbel⟩ := hrel
    by_cases hlt : k < n
    · obtain ⟨b, off, rfl, ai, ci, hc0, hs0⟩ := HS.out k (by rw [HN.out]; exact hlt)
      have hc := (hbel.cell (p := ⟨b, off + k, none⟩) (blk_lt hc0)).trans hc0
      have hs1 := hs0.below hbel
      have hlx := HLS.out k (by rw [HN.out]; exact hlt)
      obtain ⟨l, hl⟩ : ∃ l, l = ls.getD k [] := ⟨_, rfl⟩
      rw [← hl] at hc hs1 hlx
      obtain ⟨m, hmm⟩ : ∃ m, m = l.length := ⟨_, rfl⟩
      rw [← hmm] at hc hlx
      have hltI : (k : Int) < (n : Int) := by omega
      have C := hide (toStringS_any ai l m ci wr hmm.symm hs1 hlx)
      have hwB : w.heap.size < wr.heap.size := (hown.lt w.heap.size rfl).2
      have HLL := hide hl.symm
      have HMM := hide hmm.symm
      have HO2 := hide hown
      have HOS := hide hos
      have HB2 := hide hbel
      clear hc0 hs0 hs1 hl hmm hown hos hbel
      go_wp2_with fail
      refine C.out.mono ?_
      rintro e w2 ⟨rfl, ho2, hb2⟩
      have hown2 := own_belowS HO2.out hb2
      have hbel2 := HB2.out.trans (hb2.mono HB2.out.size)
      have hcl := hown2.cellAt k (by omega)
      have hfr := hown2.frozenAt k
      have hvl : vs.length = n := by have := hown2.1; omega
      obtain ⟨v, hv⟩ : ∃ v, w2.cell? ⟨w.heap.size, k, none⟩ = some v := ⟨_, hcl.trans (List.getElem?_eq_getElem (by omega))⟩
      have hst := hown2.stored k (.slice (some ⟨wr.heap.size, 0, none⟩) m m)
      have hgl := (ho2.lt wr.heap.size rfl).2
      have R : ∃ (k' : Nat) (vs' : List Value) (g' : Nat → Nat), k' ≤ n ∧ Value.int .i64 ((k : Int) + 1) = .int .i64 k' ∧ (w2.setCell ⟨w.heap.size, k, none⟩ (.slice (some ⟨wr.heap.size, 0, none⟩) m m)).ownsRow w.heap.size 58 1 (.slice (some ⟨w.heap.size, 0, none⟩) n n) n vs' ∧ OwnSS (w2.setCell ⟨w.heap.size, k, none⟩ (.slice (some ⟨wr.heap.size, 0, none⟩) m m)) w.heap.size ls g' k' ∧ Below w.heap.size w (w2.setCell ⟨w.heap.size, k, none⟩ (.slice (some ⟨wr.heap.size, 0, none⟩) m m)) := by
        refine ⟨k + 1, vs.set k (.slice (some ⟨wr.heap.size, 0, none⟩) m m), fun i => if i = k then wr.heap.size else g i, by omega, by simp, hst.1, ⟨fun i hi => ?_, fun i hi => ?_, fun i j hij hj => ?_, fun i hi => ?_⟩, hbel2.setCell (p := ⟨w.heap.size, k, none⟩) (Nat.le_refl _) _⟩
        · by_cases e : i = k
          · subst e
            simp only [↓reduceIte]
            rw [HLL.out, HMM.out]
            have := hst.1.cellAt i (by omega)
            rw [this, List.getElem?_set_self (by omega)]
          · simp only [if_neg e]
            rw [World.cell?_setCell_other _ _ _ _ (fun h => e (by simp at h <;> omega))]
            exact (HOS.out.below hb2).cell i (by omega)
        · by_cases e : i = k
          · subst e
            simp only [↓reduceIte]
            rw [HLL.out, HMM.out]
            exact (own_baseS ho2 (by omega)).kept hst.2 (own_neS (own_baseS ho2 (show w.heap.size + 1 ≤ wr.heap.size by omega)) (Nat.lt_succ_self _))
          · simp only [if_neg e]
            have := (HOS.out.below hb2).own i (by omega)
            exact this.kept hst.2 (own_neS this (Nat.lt_succ_self _))
        · by_cases e : j = k
          · have e2 : ¬ i = k := by omega
            simp only [if_pos e, if_neg e2]
            exact HOS.out.lt i (by omega)
          · have e2 : ¬ i = k := by omega
            simp only [if_neg e, if_neg e2]
            exact HOS.out.rise i j hij (by omega)
        · have hz := hb2.size
          by_cases e : i = k
          · simp only [if_pos e]; simp; omega
          · simp only [if_neg e]
            have := HOS.out.lt i (by omega)
            simp; omega
      have HR := hide R
      clear hcl hvl hst hown2 hbel2 ho2 hb2 R
      go_wp2
      go_roundw
      case rel => exact HR.out
      case measure => simp [intOf]; omega
    · obtain rfl : k = n := by omega
      have hltI : ¬ (k : Int) < (k : Int) := by omega
      have HOS := hide hos
      have hnew := (hown.lt w.heap.size rfl).2
      have HOWN := hide hown
      clear hos hown
      go_wp2
      go_ret
      exact ⟨rfl, ⟨⟨g, HOS.out⟩, vs, HOWN.out⟩, hnew, hbel⟩

end Go.Proofs.Ythmekhhfihjclag.Str

namespace Go.Proofs.Ythmekhhfihjclag.Tri
open Go.RowKit L1
set_option linter.unusedVariables false

theorem info_Told : (Try.prog.info? 75).map (fun i => (i.zero, i.size, i.bytes)) = some (some (.agg #[.int .i64 0, .int .i64 0, .string ByteArray.empty]), 3, 32) := by kernel_rfl
set_option maxRecDepth 100000 in
set_option maxHeartbeats 400000 in
theorem toTold_any (x z : Int) (y : ByteArray) (w : World) :
    Calls Try.prog 83 #[.agg #[.int .i64 x, .int .i64 z, .string y]] w fun e w' => e = .returned (.agg #[.int .i64 x, .int .i64 z, .string y]) ∧ Below w.heap.size w w' := by
  go_enter Try.func83, Try.ntmps83
  go_wp2
  refine bodyPost_ret (v := .agg #[.int .i64 x, .int .i64 z, .string y]) (by simp [results, Try.f83, go_sem]) rfl ⟨rfl, ?_⟩
  exact (((Below.refl _ _).alloc (Nat.le_refl _) _).alloc (by simp) _).alloc (by simp; omega) _

/-- One round of the copy. -/
theorem copy_roundTold {w wr : World} {xs ys : List Tr} {m k : Nat} {x z : Int} {y : ByteArray} (hx : xs.getD k e3 = (x, z, y)) (hlt : k < m) (hm : xs.length = m) (hl : ys.length = m) (HX : ∀ j, j < k → ys.getD j e3 = xs.getD j e3)
    (hown : wr.ownsRow w.heap.size 75 3 (.slice (some ⟨w.heap.size, 0, none⟩) m m) m (flat3 ys)) (hb : Below w.heap.size w wr) :
    ∃ (k' : Nat) (ys' : List Tr), k' ≤ m ∧ Value.int .i64 ((k : Int) + 1) = .int .i64 k' ∧ ys'.length = m ∧ Hid (∀ j, j < k' → ys'.getD j e3 = xs.getD j e3) ∧
      (((wr.setCell ⟨w.heap.size, k * 3, none⟩ (.int .i64 x)).setCell ⟨w.heap.size, k * 3 + 1, none⟩ (.int .i64 z)).setCell ⟨w.heap.size, k * 3 + 2, none⟩ (.string y)).ownsRow w.heap.size 75 3 (.slice (some ⟨w.heap.size, 0, none⟩) m m) m (flat3 ys') ∧ Below w.heap.size w (((wr.setCell ⟨w.heap.size, k * 3, none⟩ (.int .i64 x)).setCell ⟨w.heap.size, k * 3 + 1, none⟩ (.int .i64 z)).setCell ⟨w.heap.size, k * 3 + 2, none⟩ (.string y)) := by
  have hst := (((hown.stored (k * 3) (.int .i64 x)).1.stored (k * 3 + 1) (.int .i64 z)).1.stored (k * 3 + 2) (.string y))
  have hb2 := ((hb.setCell (p := ⟨w.heap.size, k * 3, none⟩) (Nat.le_refl _) (.int .i64 x)).setCell (p := ⟨w.heap.size, k * 3 + 1, none⟩) (Nat.le_refl _) (.int .i64 z)).setCell (p := ⟨w.heap.size, k * 3 + 2, none⟩) (Nat.le_refl _) (.string y)
  refine ⟨k + 1, ys.set k (x, z, y), by omega, by simp, by simpa using hl, ?_, by rw [flat3_set]; exact hst.1, hb2⟩
  intro j hj
  by_cases e : j = k
  · subst e
    rw [hx]
    simp [List.getD, hl, hlt]
  · rw [← HX j (by omega)]
    simp [List.getD, Ne.symm e]

set_option maxRecDepth 100000 in
set_option maxHeartbeats 1000000 in
theorem toToldS_any (a : Option Addr) (xs : List Tr) (n cap : Nat) (w : World) (hn : xs.length = n) (hs : Sl3 w a xs) (hn2 : n ≤ 1048576) :
    Calls Try.prog 49 #[.slice a n cap] w fun e w' => e = .returned (.slice (some ⟨w.heap.size, 0, none⟩) n n) ∧
      w'.ownsRow w.heap.size 75 3 (.slice (some ⟨w.heap.size, 0, none⟩) n n) n (flat3 xs) ∧ Below w.heap.size w w' := by
  obtain ⟨i0, hi, hz0, hz1, hz2⟩ := info_parts info_Told
  obtain ⟨w1, hmk, hown1, hg1⟩ := run_make_full (P := Try.prog) w w.heap.size 31 75 i0 (.agg #[.int .i64 0, .int .i64 0, .string ByteArray.empty]) 3 Try.underlying31 hi hz0 hz1 .i64 .i64 n (by rw [hz2]; omega) (by unfold maxLen; omega) (Nat.le_refl _)
  rw [made_3] at hown1
  have hb1 : Below w.heap.size w w1 := (Below.refl _ _).grown hg1 (Nat.le_refl _) (fun k hk => by cases hk)
  have HO := hide hown1
  have HS := hide hs
  have HN := hide hn
  clear hown1 hg1 hs hn
  go_enter Try.func49, Try.ntmps49
  go_wp2
  go_loopw [4] (fun i wr => ∃ (k : Nat) (ys : List Tr), k ≤ n ∧ i = .int .i64 k ∧ ys.length = n ∧ Hid (∀ j, j < k → ys.getD j e3 = xs.getD j e3) ∧
      wr.ownsRow w.heap.size 75 3 (.slice (some ⟨w.heap.size, 0, none⟩) n n) n (flat3 ys) ∧ Below w.heap.size w wr) (fun i _ => n - (intOf i).toNat)
  case atStart => exact ⟨0, List.replicate n e3, Nat.zero_le _, rfl, by simp, fun j hj => absurd hj (Nat.not_lt_zero _), HO, hb1⟩
  case round =>
    obtain ⟨k, ys, hk, rfl, hyl, HX, hown, hbel⟩ := hrel
    have HL := hide hyl
    clear hyl
    by_cases hlt : k < n
    · obtain ⟨b, off, rfl, hc0, he0, hd0⟩ := HS.out k (by rw [HN.out]; exact hlt)
      have hc := (hbel.cell (p := ⟨b, off + k * 3, none⟩) (blk_lt hc0)).trans hc0
      have he := (hbel.cell (p := ⟨b, off + k * 3 + 1, none⟩) (blk_lt he0)).trans he0
      have hd := (hbel.cell (p := ⟨b, off + k * 3 + 2, none⟩) (blk_lt hd0)).trans hd0
      have hltI : (k : Int) < (n : Int) := by omega
      obtain ⟨x, hx⟩ : ∃ x, x = (xs.getD k e3).1 := ⟨_, rfl⟩
      obtain ⟨z, hz⟩ : ∃ z, z = (xs.getD k e3).2.1 := ⟨_, rfl⟩
      obtain ⟨y, hy⟩ : ∃ y, y = (xs.getD k e3).2.2 := ⟨_, rfl⟩
      rw [← hx] at hc
      rw [← hz] at he
      rw [← hy] at hd
      have hxy : xs.getD k e3 = (x, z, y) := by rw [hx, hz, hy]
      have HXY := hide hxy
      have HO2 := hide hown
      have HB2 := hide hbel
      clear hc0 hd0 he0 hx hy hz hxy hown hbel
      go_wp2_with fail
      refine (toTold_any x z y _).mono ?_
      rintro e w2 ⟨rfl, hb2⟩
      have hown2 := own_below3 HO2.out hb2
      have hbel2 := HB2.out.trans (hb2.mono HB2.out.size)
      have hl0 : k * 3 < (flat3 ys).length := by rw [flat3_len, HL.out]; omega
      have hl1 : k * 3 + 1 < (flat3 ys).length := by rw [flat3_len, HL.out]; omega
      have hl2 : k * 3 + 2 < (flat3 ys).length := by rw [flat3_len, HL.out]; omega
      have hcl := hown2.cellAt (k * 3) (by have := HL.out; omega)
      have hcl1 := hown2.cellAt (k * 3 + 1) (by have := HL.out; omega)
      have hcl2 := hown2.cellAt (k * 3 + 2) (by have := HL.out; omega)
      have hfr := hown2.frozenAt (k * 3)
      have hfr1 := hown2.frozenAt (k * 3 + 1)
      have hfr2 := hown2.frozenAt (k * 3 + 2)
      obtain ⟨v, hv⟩ : ∃ v, w2.cell? ⟨w.heap.size, k * 3, none⟩ = some v := ⟨_, hcl.trans (List.getElem?_eq_getElem hl0)⟩
      obtain ⟨v1, hv1⟩ : ∃ v, w2.cell? ⟨w.heap.size, k * 3 + 1, none⟩ = some v := ⟨_, hcl1.trans (List.getElem?_eq_getElem hl1)⟩
      obtain ⟨v2, hv2⟩ : ∃ v, w2.cell? ⟨w.heap.size, k * 3 + 2, none⟩ = some v := ⟨_, hcl2.trans (List.getElem?_eq_getElem hl2)⟩
      have R := hide (copy_roundTold HXY.out hlt HN.out HL.out HX.out hown2 hbel2)
      clear hcl hcl1 hcl2 hl0 hl1 hl2 hown2 hbel2 hb2
      go_wp2
      go_roundw
      case rel => exact R.out
      case measure => simp [intOf]; omega
    · have e : ys = xs := list_same3 HN.out HL.out (fun j hj => HX.out j (by omega))
      subst e
      have hltI : ¬ (k : Int) < (n : Int) := by omega
      go_wp2
      go_ret
      exact ⟨rfl, hown, hbel⟩
end Go.Proofs.Ythmekhhfihjclag.Tri

namespace Go.Proofs.Ythmekhhfihjclag.Nte
open Go.RowKit L1 Tri
set_option linter.unusedVariables false

theorem info_Note : (Try.prog.info? 77).map (fun i => (i.zero, i.size, i.bytes)) = some (some (.agg #[.bool false, .int .i64 0, .int .i64 0, .string ByteArray.empty]), 4, 40) := by kernel_rfl
theorem blkN (w : World) (o : Obj) : (w.alloc o).heap[w.heap.size]? = some o := by
  show (w.heap.push o)[w.heap.size]? = some o
  simp
theorem al3N (w : World) (A B C : Obj) : (((w.alloc A).alloc B).alloc C).heap[w.heap.size + 1]? = some B ∧ (((w.alloc A).alloc B).alloc C).heap[w.heap.size + 1 + 1]? = some C ∧ Below w.heap.size w (((w.alloc A).alloc B).alloc C) := by
  have e1 : (w.alloc A).heap.size = w.heap.size + 1 := by simp
  have e2 : ((w.alloc A).alloc B).heap.size = w.heap.size + 1 + 1 := by simp
  have a2 := (Below.refl ((w.alloc A).alloc B).heap.size ((w.alloc A).alloc B)).alloc (Nat.le_refl _) C
  refine ⟨(a2.block _ (by omega)).trans ?_, ?_, (((Below.refl w.heap.size w).alloc (Nat.le_refl _) A).alloc (by omega) B).alloc (by omega) C⟩
  · rw [← e1]; exact blkN (w.alloc A) B
  · rw [← e2]; exact blkN ((w.alloc A).alloc B) C
theorem blk4 {w : World} {b : Nat} {c0 c1 c2 c3 : Value} {t : TypeId} (h : w.heap[b]? = some (.cells #[c0, c1, c2, c3] t (0, 0))) : w.cell? ⟨b, 0, none⟩ = some c0 ∧ w.cell? ⟨b, 1, none⟩ = some c1 ∧ w.cell? ⟨b, 2, none⟩ = some c2 ∧ w.cell? ⟨b, 3, none⟩ = some c3 := by
  simp [World.cell?, h]
theorem frz4 {w : World} {b : Nat} {cur : Array Value} {t : TypeId} (h : w.heap[b]? = some (.cells cur t (0, 0))) (i : Nat) : w.frozen? ⟨b, i, none⟩ = false := by
  simp [World.frozen?, h]
set_option maxRecDepth 100000 in
set_option maxHeartbeats 1000000 in
theorem toNote_any (q : Bool) (x z : Int) (y : ByteArray) (w : World) :
    Calls Try.prog 82 #[.agg #[.bool q, .int .i64 x, .int .i64 z, .string y]] w fun e w' => e = .returned (.agg #[.bool q, .int .i64 x, .int .i64 z, .string y]) ∧ Below w.heap.size w w' := by
  obtain ⟨wa, hwa⟩ : ∃ wa, wa = ((w.alloc (.cells #[.bool q, .int .i64 x, .int .i64 z, .string y] 102 (0, 0))).alloc (.cells #[.bool false, .int .i64 0, .int .i64 0, .string ⟨#[]⟩] 77 (0, 0))).alloc (.cells #[.bool q, .int .i64 0, .int .i64 0, .string ⟨#[]⟩] 77 (0, 0)) := ⟨_, rfl⟩
  obtain ⟨h1, h2, hB⟩ := al3N w (.cells #[.bool q, .int .i64 x, .int .i64 z, .string y] 102 (0, 0)) (.cells #[.bool false, .int .i64 0, .int .i64 0, .string ⟨#[]⟩] 77 (0, 0)) (.cells #[.bool q, .int .i64 0, .int .i64 0, .string ⟨#[]⟩] 77 (0, 0))
  rw [← hwa] at h1 h2 hB
  have H1 := hide h1
  have H2 := hide h2
  have HB := hide hB
  have HWA := hide hwa
  clear h1 h2 hB hwa
  go_enter Try.func82, Try.ntmps82
  go_wp2_with fail
  rw [← HWA.out]
  refine (toTold_any x z y _).mono ?_
  rintro e w2 ⟨rfl, hb⟩
  have g1 := (hb.block _ (Array.getElem?_eq_some_iff.1 H1.out).1).trans H1.out
  have g2 := (hb.block _ (Array.getElem?_eq_some_iff.1 H2.out).1).trans H2.out
  have B2 := hide (HB.out.trans (hb.mono HB.out.size))
  obtain ⟨a0, a1, a2, a3⟩ := blk4 g1
  obtain ⟨b0, b1, b2, b3⟩ := blk4 g2
  have f1 : ∀ i, w2.frozen? ⟨w.heap.size + 1, i, none⟩ = false := fun i => frz4 g1 i
  have f2 : ∀ i, w2.frozen? ⟨w.heap.size + 1 + 1, i, none⟩ = false := fun i => frz4 g2 i
  clear g1 g2 hb
  go_wp2
  refine bodyPost_ret (v := .agg #[.bool q, .int .i64 x, .int .i64 z, .string y]) (by simp [results, Try.f82, go_sem, a0, a1, a2, a3]) rfl ⟨rfl, ?_⟩
  have u1 : w.heap.size ≤ w.heap.size + 1 := by omega
  have u2 : w.heap.size ≤ w.heap.size + 1 + 1 := by omega
  exact ((((((B2.out.setCell (p := ⟨w.heap.size + 1 + 1, 1, none⟩) u2 _).setCell (p := ⟨w.heap.size + 1 + 1, 2, none⟩) u2 _).setCell (p := ⟨w.heap.size + 1 + 1, 3, none⟩) u2 _).setCell (p := ⟨w.heap.size + 1, 0, none⟩) u1 _).setCell (p := ⟨w.heap.size + 1, 1, none⟩) u1 _).setCell (p := ⟨w.heap.size + 1, 2, none⟩) u1 _).setCell (p := ⟨w.heap.size + 1, 3, none⟩) u1 _

/-- One round of the copy. -/
theorem copy_roundN {w wr : World} {xs ys : List Nt} {m k : Nat} {q : Bool} {x z : Int} {y : ByteArray} (hx : xs.getD k e4 = (q, x, z, y)) (hlt : k < m) (hm : xs.length = m) (hl : ys.length = m) (HX : ∀ j, j < k → ys.getD j e4 = xs.getD j e4)
    (hown : wr.ownsRow w.heap.size 77 4 (.slice (some ⟨w.heap.size, 0, none⟩) m m) m (flat4 ys)) (hb : Below w.heap.size w wr) :
    ∃ (k' : Nat) (ys' : List Nt), k' ≤ m ∧ Value.int .i64 ((k : Int) + 1) = .int .i64 k' ∧ ys'.length = m ∧ Hid (∀ j, j < k' → ys'.getD j e4 = xs.getD j e4) ∧
      ((((wr.setCell ⟨w.heap.size, k * 4, none⟩ (.bool q)).setCell ⟨w.heap.size, k * 4 + 1, none⟩ (.int .i64 x)).setCell ⟨w.heap.size, k * 4 + 2, none⟩ (.int .i64 z)).setCell ⟨w.heap.size, k * 4 + 3, none⟩ (.string y)).ownsRow w.heap.size 77 4 (.slice (some ⟨w.heap.size, 0, none⟩) m m) m (flat4 ys') ∧ Below w.heap.size w ((((wr.setCell ⟨w.heap.size, k * 4, none⟩ (.bool q)).setCell ⟨w.heap.size, k * 4 + 1, none⟩ (.int .i64 x)).setCell ⟨w.heap.size, k * 4 + 2, none⟩ (.int .i64 z)).setCell ⟨w.heap.size, k * 4 + 3, none⟩ (.string y)) := by
  have hst := ((((hown.stored (k * 4) (.bool q)).1.stored (k * 4 + 1) (.int .i64 x)).1.stored (k * 4 + 2) (.int .i64 z)).1.stored (k * 4 + 3) (.string y))
  have hb2 := (((hb.setCell (p := ⟨w.heap.size, k * 4, none⟩) (Nat.le_refl _) (.bool q)).setCell (p := ⟨w.heap.size, k * 4 + 1, none⟩) (Nat.le_refl _) (.int .i64 x)).setCell (p := ⟨w.heap.size, k * 4 + 2, none⟩) (Nat.le_refl _) (.int .i64 z)).setCell (p := ⟨w.heap.size, k * 4 + 3, none⟩) (Nat.le_refl _) (.string y)
  refine ⟨k + 1, ys.set k (q, x, z, y), by omega, by simp, by simpa using hl, ?_, by rw [flat4_set]; exact hst.1, hb2⟩
  intro j hj
  by_cases e : j = k
  · subst e
    rw [hx]
    simp [List.getD, hl, hlt]
  · rw [← HX j (by omega)]
    simp [List.getD, Ne.symm e]

set_option maxRecDepth 100000 in
set_option maxHeartbeats 1000000 in
theorem toNoteS_any (a : Option Addr) (xs : List Nt) (n cap : Nat) (w : World) (hn : xs.length = n) (hs : Sl4 w a xs) (hn2 : n ≤ 1048576) :
    Calls Try.prog 48 #[.slice a n cap] w fun e w' => e = .returned (.slice (some ⟨w.heap.size, 0, none⟩) n n) ∧
      w'.ownsRow w.heap.size 77 4 (.slice (some ⟨w.heap.size, 0, none⟩) n n) n (flat4 xs) ∧ Below w.heap.size w w' := by
  obtain ⟨i0, hi, hz0, hz1, hz2⟩ := info_parts info_Note
  obtain ⟨w1, hmk, hown1, hg1⟩ := run_make_full (P := Try.prog) w w.heap.size 30 77 i0 (.agg #[.bool false, .int .i64 0, .int .i64 0, .string ByteArray.empty]) 4 Try.underlying30 hi hz0 hz1 .i64 .i64 n (by rw [hz2]; omega) (by unfold maxLen; omega) (Nat.le_refl _)
  rw [made_4] at hown1
  have hb1 : Below w.heap.size w w1 := (Below.refl _ _).grown hg1 (Nat.le_refl _) (fun k hk => by cases hk)
  have HO := hide hown1
  have HS := hide hs
  have HN := hide hn
  clear hown1 hg1 hs hn
  go_enter Try.func48, Try.ntmps48
  go_wp2
  go_loopw [4] (fun i wr => ∃ (k : Nat) (ys : List Nt), k ≤ n ∧ i = .int .i64 k ∧ ys.length = n ∧ Hid (∀ j, j < k → ys.getD j e4 = xs.getD j e4) ∧
      wr.ownsRow w.heap.size 77 4 (.slice (some ⟨w.heap.size, 0, none⟩) n n) n (flat4 ys) ∧ Below w.heap.size w wr) (fun i _ => n - (intOf i).toNat)
  case atStart => exact ⟨0, List.replicate n e4, Nat.zero_le _, rfl, by simp, fun j hj => absurd hj (Nat.not_lt_zero _), HO, hb1⟩
  case round =>
    obtain ⟨k, ys, hk, rfl, hyl, HX, hown, hbel⟩ := hrel
    have HL := hide hyl
    clear hyl
    by_cases hlt : k < n
    · obtain ⟨b, off, rfl, hq0, hc0, he0, hd0⟩ := HS.out k (by rw [HN.out]; exact hlt)
      have hqq := (hbel.cell (p := ⟨b, off + k * 4, none⟩) (blk_lt hq0)).trans hq0
      have hc := (hbel.cell (p := ⟨b, off + k * 4 + 1, none⟩) (blk_lt hc0)).trans hc0
      have he := (hbel.cell (p := ⟨b, off + k * 4 + 2, none⟩) (blk_lt he0)).trans he0
      have hd := (hbel.cell (p := ⟨b, off + k * 4 + 3, none⟩) (blk_lt hd0)).trans hd0
      have hltI : (k : Int) < (n : Int) := by omega
      obtain ⟨q, hqe⟩ : ∃ q, q = (xs.getD k e4).1 := ⟨_, rfl⟩
      obtain ⟨x, hx⟩ : ∃ x, x = (xs.getD k e4).2.1 := ⟨_, rfl⟩
      obtain ⟨z, hz⟩ : ∃ z, z = (xs.getD k e4).2.2.1 := ⟨_, rfl⟩
      obtain ⟨y, hy⟩ : ∃ y, y = (xs.getD k e4).2.2.2 := ⟨_, rfl⟩
      rw [← hqe] at hqq
      rw [← hx] at hc
      rw [← hz] at he
      rw [← hy] at hd
      have hxy : xs.getD k e4 = (q, x, z, y) := by rw [hqe, hx, hz, hy]
      have HXY := hide hxy
      have HO2 := hide hown
      have HB2 := hide hbel
      clear hq0 hc0 hd0 he0 hqe hx hy hz hxy hown hbel
      go_wp2_with fail
      refine (toNote_any q x z y _).mono ?_
      rintro e w2 ⟨rfl, hb2⟩
      have hown2 := own_below4 HO2.out hb2
      have hbel2 := HB2.out.trans (hb2.mono HB2.out.size)
      have hlf : (flat4 ys).length = n * 4 := by rw [flat4_len, HL.out]
      have hcl := hown2.cellAt (k * 4) (by have := HL.out; omega)
      have hcl1 := hown2.cellAt (k * 4 + 1) (by have := HL.out; omega)
      have hcl2 := hown2.cellAt (k * 4 + 2) (by have := HL.out; omega)
      have hcl3 := hown2.cellAt (k * 4 + 3) (by have := HL.out; omega)
      have hfr := hown2.frozenAt (k * 4)
      have hfr1 := hown2.frozenAt (k * 4 + 1)
      have hfr2 := hown2.frozenAt (k * 4 + 2)
      have hfr3 := hown2.frozenAt (k * 4 + 3)
      obtain ⟨v, hv⟩ : ∃ v, w2.cell? ⟨w.heap.size, k * 4, none⟩ = some v := ⟨_, hcl.trans (List.getElem?_eq_getElem (by omega))⟩
      obtain ⟨v1, hv1⟩ : ∃ v, w2.cell? ⟨w.heap.size, k * 4 + 1, none⟩ = some v := ⟨_, hcl1.trans (List.getElem?_eq_getElem (by omega))⟩
      obtain ⟨v2, hv2⟩ : ∃ v, w2.cell? ⟨w.heap.size, k * 4 + 2, none⟩ = some v := ⟨_, hcl2.trans (List.getElem?_eq_getElem (by omega))⟩
      obtain ⟨v3, hv3⟩ : ∃ v, w2.cell? ⟨w.heap.size, k * 4 + 3, none⟩ = some v := ⟨_, hcl3.trans (List.getElem?_eq_getElem (by omega))⟩
      have R := hide (copy_roundN HXY.out hlt HN.out HL.out HX.out hown2 hbel2)
      clear hcl hcl1 hcl2 hcl3 hlf hown2 hbel2 hb2
      go_wp2
      go_roundw
      case rel => exact R.out
      case measure => simp [intOf]; omega
    · have e : ys = xs := list_same4 HN.out HL.out (fun j hj => HX.out j (by omega))
      subst e
      have hltI : ¬ (k : Int) < (n : Int) := by omega
      go_wp2
      go_ret
      exact ⟨rfl, hown, hbel⟩
end Go.Proofs.Ythmekhhfihjclag.Nte
