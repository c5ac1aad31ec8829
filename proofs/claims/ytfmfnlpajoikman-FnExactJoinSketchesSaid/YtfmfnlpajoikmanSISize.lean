/-
  Contract of the laws' own helper szIntSS.
-/
import Derived.Test.YtfmfnlpajoikmanSI
namespace Go.Proofs.Ytfmfnlpajoikman.Sli
open Go.RowKit L1 Own
set_option linter.unusedVariables false

set_option maxRecDepth 100000 in
set_option maxHeartbeats 400000 in
theorem szIntS_l (a : Option Addr) (l : List Int) (n cap : Nat) (L : Int) (w : World) (hn : l.length = n) (hm : n ≤ 9223372036854775807) (hs : Sl w a l) (hst : TxI l) (h0 : 0 ≤ L) (h1 : L ≤ 1048576) (r : Int) (hr : r = if (l.length : Int) ≤ L then L - (l.length : Int) else -1) :
    Calls Try.prog 55 #[.slice a n cap, .int .i64 L] w fun e w' => e = .returned (.int .i64 r) ∧ Below w.heap.size w w' := by
  rw [hn] at hr
  have HR := hide hr
  clear hr hn hs hst
  by_cases ha : L - (n : Int) < 0
  · go_enter Try.func55, Try.ntmps55
    go_wp2
    go_ret
    exact ⟨by rw [HR.out, if_neg (by omega)]; rfl, Below.refl _ _⟩
  · go_enter Try.func55, Try.ntmps55
    go_wp2
    go_ret
    exact ⟨by rw [HR.out, if_pos (by omega)]; rfl, Below.refl _ _⟩
/-- What a list weighs. -/
abbrev wtI (l : List Int) : Nat := l.length
/-- What lists weigh, but for their number. -/
def wtsI : List (List Int) → Nat
  | [] => 0
  | l :: ls => wtI l + wtsI ls
theorem wtsI_append : ∀ l m : List (List Int), wtsI (l ++ m) = wtsI l + wtsI m
  | [], m => by simp [wtsI]
  | p :: l, m => by simp [wtsI, wtsI_append l m]; omega
theorem wtsI_take (ls : List (List Int)) (k : Nat) (hk : k < ls.length) : wtsI (ls.take (k + 1)) = wtsI (ls.take k) + wtI (ls.getD k []) := by
  rw [List.take_succ_eq_append_getElem hk, wtsI_append]
  simp [wtsI, List.getD, List.getElem?_eq_getElem hk]
theorem wtsI_le (ls : List (List Int)) (k : Nat) : wtsI (ls.take k) ≤ wtsI ls := by
  have h : ls = ls.take k ++ ls.drop k := (List.take_append_drop k ls).symm
  have := wtsI_append (ls.take k) (ls.drop k)
  rw [← h] at this
  omega
theorem wtsI_get (ls : List (List Int)) (k : Nat) (hk : k < ls.length) : wtI (ls.getD k []) ≤ wtsI ls := by
  have h1 := wtsI_take ls k hk
  have h2 := wtsI_le ls (k + 1)
  omega
def wtSI (ls : List (List Int)) : Nat := ls.length + wtsI ls

set_option maxRecDepth 100000 in
set_option maxHeartbeats 2000000 in
theorem szIntSS_any (a : Option Addr) (ls : List (List Int)) (n cap : Nat) (L : Int) (w : World) (hn : ls.length = n) (hm : n ≤ 9223372036854775807) (hs : SlSI w a ls) (hst : TxSI ls) (h0 : 0 ≤ L) (h1 : L ≤ 1048576) (r : Int) (hr : r = if (wtSI ls : Int) ≤ L then L - (wtSI ls : Int) else -1) :
    Calls Try.prog 31 #[.slice a n cap, .int .i64 L] w fun e w' => e = .returned (.int .i64 r) ∧ Below w.heap.size w w' := by
  have HR := hide hr
  have HS := hide hs
  have HN := hide hn
  have HST := hide hst
  clear hr hs hn hst
  have HW : Hid (wtSI ls = n + wtsI ls) := by show wtSI ls = n + wtsI ls; unfold wtSI; rw [HN.out]
  by_cases ha : L - (n : Int) < 0
  · go_enter Try.func31, Try.ntmps31
    go_wp2
    go_ret
    exact ⟨by rw [HR.out, HW.out, if_neg (by omega)]; rfl, Below.refl _ _⟩
  · go_enter Try.func31, Try.ntmps31
    go_wp2
    go_loopw [1, 5] (fun t i wr => ∃ k : Nat, k ≤ n ∧ i = .int .i64 k ∧ t = .int .i64 (L - (n : Int) - (wtsI (ls.take k) : Int)) ∧ Hid ((wtsI (ls.take k) : Int) ≤ L - (n : Int)) ∧ Below w.heap.size w wr) (fun _ i _ => n - (intOf i).toNat)
    case atStart => exact ⟨0, Nat.zero_le _, rfl, by simp [wtsI], by show (wtsI (ls.take 0) : Int) ≤ L - (n : Int); simp [wtsI]; omega, Below.refl _ _⟩
    case round =>
      obtain ⟨k, hk, rfl, rfl, HK, hbel⟩ := hrel
      by_cases hlt : k < n
      · obtain ⟨b, off, rfl, ai, ci, hc0, hs0⟩ := HS.out k (by rw [HN.out]; exact hlt)
        have hc := (hbel.cell (p := ⟨b, off + k, none⟩) (blk_lt hc0)).trans hc0
        have hs1 := hs0.below hbel
        have hltI : (k : Int) < (n : Int) := by omega
        have hsx := HST.out k (by rw [HN.out]; exact hlt)
        have htk := wtsI_take ls k (by rw [HN.out]; exact hlt)
        have hle := wtsI_le ls (k + 1)
        obtain ⟨l, hl⟩ : ∃ l, l = ls.getD k [] := ⟨_, rfl⟩
        rw [← hl] at hc hs1 hsx htk
        obtain ⟨m, hmm⟩ : ∃ m, m = l.length := ⟨_, rfl⟩
        rw [← hmm] at hc hsx
        obtain ⟨c, hcc⟩ : ∃ c, c = L - (n : Int) - (wtsI (ls.take k) : Int) := ⟨_, rfl⟩
        have hc0' : 0 ≤ c := by have := HK.out; omega
        have hc1 : c ≤ 1048576 := by omega
        rw [← hcc]
        have C0 := hide (fun r hr => szIntS_l ai l m ci c wr hmm.symm hsx.1 hs1 hsx.2 hc0' hc1 r hr)
        have HC := hide hcc
        have HTK := hide htk
        have HLE := hide hle
        have B0 := hide hbel
        clear hcc htk hle hbel hl hmm hs1 hs0 hc0 hsx
        by_cases hfit : (wtI l : Int) ≤ c
        · obtain ⟨d, hd'⟩ : ∃ d, d = c - (wtI l : Int) := ⟨_, rfl⟩
          have C := hide (C0.out d (by rw [if_pos hfit]; exact hd'))
          have hd0 : ¬ d < 0 := by omega
          have HD := hide hd'
          clear hd' C0
          go_wp2_with fail
          refine C.out.mono ?_
          rintro e w1 ⟨rfl, hb1⟩
          have B1 := hide (B0.out.trans (hb1.mono B0.out.size))
          clear hb1
          go_wp2
          go_roundw
          case rel => exact ⟨k + 1, by omega, by go_num, by rw [HD.out, HC.out, HTK.out]; go_num, by show (wtsI (ls.take (k + 1)) : Int) ≤ L - (n : Int); have := HC.out; have := HTK.out; omega, B1.out⟩
          case measure => simp [intOf]; omega
        · have C := hide (C0.out (-1) (by rw [if_neg hfit]))
          have E : Hid (r = -1) := by show r = -1; have := HC.out; have := HTK.out; have := HLE.out; rw [HR.out, HW.out, if_neg (by omega)]
          clear hfit C0
          go_wp2_with fail
          refine C.out.mono ?_
          rintro e w1 ⟨rfl, hb1⟩
          have B1 := hide (B0.out.trans (hb1.mono B0.out.size))
          clear hb1
          go_wp2
          go_ret
          exact ⟨by rw [E.out]; rfl, B1.out⟩
      · obtain rfl : k = n := by omega
        have hltI : ¬ (k : Int) < (k : Int) := by omega
        have e1 : ls.take k = ls := List.take_of_length_le (by rw [HN.out]; exact Nat.le_refl _)
        rw [e1] at HK ⊢
        have E : Hid (r = L - (k : Int) - (wtsI ls : Int)) := by show r = _; have := HK.out; rw [HR.out, HW.out, if_pos (by omega)]; omega
        clear e1
        go_wp2
        go_ret
        exact ⟨by rw [E.out]; rfl, hbel⟩

end Go.Proofs.Ytfmfnlpajoikman.Sli
