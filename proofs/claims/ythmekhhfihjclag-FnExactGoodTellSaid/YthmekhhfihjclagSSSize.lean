/-
  Contract of the laws' own helper szStringSS.
-/
import Derived.Test.YthmekhhfihjclagSS
import Derived.Test.YthmekhhfihjclagStrSize
namespace Go.Proofs.Ythmekhhfihjclag.Str
open Go.RowKit L1
set_option linter.unusedVariables false

/-- What lists weigh, but for their number. -/
def wtsS : List (List ByteArray) → Nat
  | [] => 0
  | l :: ls => wtS l + wtsS ls
theorem wtsS_append : ∀ l m : List (List ByteArray), wtsS (l ++ m) = wtsS l + wtsS m
  | [], m => by simp [wtsS]
  | p :: l, m => by simp [wtsS, wtsS_append l m]; omega
theorem wtsS_take (ls : List (List ByteArray)) (k : Nat) (hk : k < ls.length) : wtsS (ls.take (k + 1)) = wtsS (ls.take k) + wtS (ls.getD k []) := by
  rw [List.take_succ_eq_append_getElem hk, wtsS_append]
  simp [wtsS, List.getD, List.getElem?_eq_getElem hk]
theorem wtsS_le (ls : List (List ByteArray)) (k : Nat) : wtsS (ls.take k) ≤ wtsS ls := by
  have h : ls = ls.take k ++ ls.drop k := (List.take_append_drop k ls).symm
  have := wtsS_append (ls.take k) (ls.drop k)
  rw [← h] at this
  omega
theorem wtsS_get (ls : List (List ByteArray)) (k : Nat) (hk : k < ls.length) : wtS (ls.getD k []) ≤ wtsS ls := by
  have h1 := wtsS_take ls k hk
  have h2 := wtsS_le ls (k + 1)
  omega
def wtSS (ls : List (List ByteArray)) : Nat := ls.length + wtsS ls

set_option maxRecDepth 100000 in
set_option maxHeartbeats 2000000 in
theorem szStringSS_any (a : Option Addr) (ls : List (List ByteArray)) (n cap : Nat) (L : Int) (w : World) (hn : ls.length = n) (hm : n ≤ 9223372036854775807) (hs : SlSS w a ls) (hst : TxSS ls) (h0 : 0 ≤ L) (h1 : L ≤ 1048576) (r : Int) (hr : r = if (wtSS ls : Int) ≤ L then L - (wtSS ls : Int) else -1) :
    Calls Try.prog 38 #[.slice a n cap, .int .i64 L] w fun e w' => e = .returned (.int .i64 r) ∧ Below w.heap.size w w' := by
  have HR := hide hr
  have HS := hide hs
  have HN := hide hn
  have HST := hide hst
  clear hr hs hn hst
  have HW : Hid (wtSS ls = n + wtsS ls) := by show wtSS ls = n + wtsS ls; unfold wtSS; rw [HN.out]
  by_cases ha : L - (n : Int) < 0
  · go_enter Try.func38, Try.ntmps38
    go_wp2
    go_ret
    exact ⟨by rw [HR.out, HW.out, if_neg (by omega)]; rfl, Below.refl _ _⟩
  · go_enter Try.func38, Try.ntmps38
    go_wp2
    go_loopw [1, 5] (fun t i wr => ∃ k : Nat, k ≤ n ∧ i = .int .i64 k ∧ t = .int .i64 (L - (n : Int) - (wtsS (ls.take k) : Int)) ∧ Hid ((wtsS (ls.take k) : Int) ≤ L - (n : Int)) ∧ Below w.heap.size w wr) (fun _ i _ => n - (intOf i).toNat)
    case atStart => exact ⟨0, Nat.zero_le _, rfl, by simp [wtsS], by show (wtsS (ls.take 0) : Int) ≤ L - (n : Int); simp [wtsS]; omega, Below.refl _ _⟩
    case round =>
      obtain ⟨k, hk, rfl, rfl, HK, hbel⟩ := hrel
      by_cases hlt : k < n
      · obtain ⟨b, off, rfl, ai, ci, hc0, hs0⟩ := HS.out k (by rw [HN.out]; exact hlt)
        have hc := (hbel.cell (p := ⟨b, off + k, none⟩) (blk_lt hc0)).trans hc0
        have hs1 := hs0.below hbel
        have hltI : (k : Int) < (n : Int) := by omega
        have hsx := HST.out k (by rw [HN.out]; exact hlt)
        have htk := wtsS_take ls k (by rw [HN.out]; exact hlt)
        have hle := wtsS_le ls (k + 1)
        obtain ⟨l, hl⟩ : ∃ l, l = ls.getD k [] := ⟨_, rfl⟩
        rw [← hl] at hc hs1 hsx htk
        obtain ⟨m, hmm⟩ : ∃ m, m = l.length := ⟨_, rfl⟩
        rw [← hmm] at hc hsx
        obtain ⟨c, hcc⟩ : ∃ c, c = L - (n : Int) - (wtsS (ls.take k) : Int) := ⟨_, rfl⟩
        have hc0' : 0 ≤ c := by have := HK.out; omega
        have hc1 : c ≤ 1048576 := by omega
        rw [← hcc]
        have C0 := hide (fun r hr => szStringS_any ai l m ci c wr hmm.symm hsx.1 hs1 hsx.2 hc0' hc1 r hr)
        have HC := hide hcc
        have HTK := hide htk
        have HLE := hide hle
        have B0 := hide hbel
        clear hcc htk hle hbel hl hmm hs1 hs0 hc0 hsx
        by_cases hfit : (wtS l : Int) ≤ c
        · obtain ⟨d, hd'⟩ : ∃ d, d = c - (wtS l : Int) := ⟨_, rfl⟩
          have C := hide (C0.out d (by rw [if_pos hfit]; exact hd'))
          have hd0 : ¬ d < 0 := by omega
          have HD := hide hd'
          clear hd' C0
          go_wp2_with fail
          refine C.out.mono ?_
          rintro e w1 ⟨rfl, hb1⟩
          have B1 := hide (B0.out.trans (hb1.mono B0.out.size))
          clear hb1
          go_wp2
          go_roundw
          case rel => exact ⟨k + 1, by omega, by go_num, by rw [HD.out, HC.out, HTK.out]; go_num, by show (wtsS (ls.take (k + 1)) : Int) ≤ L - (n : Int); have := HC.out; have := HTK.out; omega, B1.out⟩
          case measure => simp [intOf]; omega
        · have C := hide (C0.out (-1) (by rw [if_neg hfit]))
          have E : Hid (r = -1) := by show r = -1; have := HC.out; have := HTK.out; have := HLE.out; rw [HR.out, HW.out, if_neg (by omega)]
          clear hfit C0
          go_wp2_with fail
          refine C.out.mono ?_
          rintro e w1 ⟨rfl, hb1⟩
          have B1 := hide (B0.out.trans (hb1.mono B0.out.size))
          clear hb1
          go_wp2
          go_ret
          exact ⟨by rw [E.out]; rfl, B1.out⟩
      · obtain rfl : k = n := by omega
        have hltI : ¬ (k : Int) < (k : Int) := by omega
        have e1 : ls.take k = ls := List.take_of_length_le (by rw [HN.out]; exact Nat.le_refl _)
        rw [e1] at HK ⊢
        have E : Hid (r = L - (k : Int) - (wtsS ls : Int)) := by show r = _; have := HK.out; rw [HR.out, HW.out, if_pos (by omega)]; omega
        clear e1
        go_wp2
        go_ret
        exact ⟨by rw [E.out]; rfl, hbel⟩

end Go.Proofs.Ythmekhhfihjclag.Str
