/-
  The laws' own helpers over lists of logs: what they weigh, a copy, whether two are alike.
-/
import Derived.Test.YtbcljhafdpnjbbdL9Lg
import Derived.Test.YtbcljhafdpnjbbdL7EntSize
import Derived.Test.YtbcljhafdpnjbbdL7EntTo
import Derived.Test.YtbcljhafdpnjbbdL7EntEq
import Derived.Deep.RegionHeld3
namespace Go.Proofs.Ytbcljhafdpnjbbd.L9
open Go.RowKit L1 L7
set_option linter.unusedVariables false

theorem info_entsG : (Try.prog.info? 30).map (fun i => (i.zero, i.size, i.bytes)) = some (some (.slice none 0 0), 1, 24) := by kernel_rfl
/-- What logs weigh, but for their number. -/
def wts : List (List En) → Nat
  | [] => 0
  | l :: ls => wt l + wts ls
theorem wts_append : ∀ l m : List (List En), wts (l ++ m) = wts l + wts m
  | [], m => by simp [wts]
  | p :: l, m => by simp [wts, wts_append l m]; omega
theorem wts_take (ls : List (List En)) (k : Nat) (hk : k < ls.length) : wts (ls.take (k + 1)) = wts (ls.take k) + wt (ls.getD k []) := by
  rw [List.take_succ_eq_append_getElem hk, wts_append]
  simp [wts, List.getD, List.getElem?_eq_getElem hk]
theorem wts_le (ls : List (List En)) (k : Nat) : wts (ls.take k) ≤ wts ls := by
  have h : ls = ls.take k ++ ls.drop k := (List.take_append_drop k ls).symm
  have := wts_append (ls.take k) (ls.drop k)
  rw [← h] at this
  omega
theorem wts_get (ls : List (List En)) (k : Nat) (hk : k < ls.length) : wt (ls.getD k []) ≤ wts ls := by
  have h1 := wts_take ls k hk
  have h2 := wts_le ls (k + 1)
  omega
def wtG (ls : List (List En)) : Nat := ls.length + wts ls

set_option maxRecDepth 100000 in
set_option maxHeartbeats 2000000 in
theorem szEntrySS_any (a : Option Addr) (ls : List (List En)) (n cap : Nat) (L : Int) (w : World) (hn : ls.length = n) (hm : n ≤ 9223372036854775807) (hs : SlG w a ls) (hst : TxG ls) (h0 : 0 ≤ L) (h1 : L ≤ 1048576) (r : Int) (hr : r = if (wtG ls : Int) ≤ L then L - (wtG ls : Int) else -1) :
    Calls Try.prog 51 #[.slice a n cap, .int .i64 L] w fun e w' => e = .returned (.int .i64 r) ∧ Below w.heap.size w w' := by
  have HR := hide hr
  have HS := hide hs
  have HN := hide hn
  have HST := hide hst
  clear hr hs hn hst
  have HW : Hid (wtG ls = n + wts ls) := by show wtG ls = n + wts ls; unfold wtG; rw [HN.out]
  by_cases ha : L - (n : Int) < 0
  · go_enter Try.func51, Try.ntmps51
    go_wp2
    go_ret
    exact ⟨by rw [HR.out, HW.out, if_neg (by omega)]; rfl, Below.refl _ _⟩
  · go_enter Try.func51, Try.ntmps51
    go_wp2
    go_loopw [1, 5] (fun t i wr => ∃ k : Nat, k ≤ n ∧ i = .int .i64 k ∧ t = .int .i64 (L - (n : Int) - (wts (ls.take k) : Int)) ∧ Hid ((wts (ls.take k) : Int) ≤ L - (n : Int)) ∧ Below w.heap.size w wr) (fun _ i _ => n - (intOf i).toNat)
    case atStart => exact ⟨0, Nat.zero_le _, rfl, by simp [wts], by show (wts (ls.take 0) : Int) ≤ L - (n : Int); simp [wts]; omega, Below.refl _ _⟩
    case round =>
      obtain ⟨k, hk, rfl, rfl, HK, hbel⟩ := hrel
      by_cases hlt : k < n
      · obtain ⟨b, off, rfl, ai, ci, hc0, hs0⟩ := HS.out k (by rw [HN.out]; exact hlt)
        have hc := (hbel.cell (p := ⟨b, off + k, none⟩) (blk_lt hc0)).trans hc0
        have hs1 := hs0.below hbel
        have hltI : (k : Int) < (n : Int) := by omega
        have hsx := HST.out k (by rw [HN.out]; exact hlt)
        have htk := wts_take ls k (by rw [HN.out]; exact hlt)
        have hle := wts_le ls (k + 1)
        obtain ⟨l, hl⟩ : ∃ l, l = ls.getD k [] := ⟨_, rfl⟩
        rw [← hl] at hc hs1 hsx htk
        obtain ⟨m, hmm⟩ : ∃ m, m = l.length := ⟨_, rfl⟩
        rw [← hmm] at hc hsx
        obtain ⟨c, hcc⟩ : ∃ c, c = L - (n : Int) - (wts (ls.take k) : Int) := ⟨_, rfl⟩
        have hc0' : 0 ≤ c := by have := HK.out; omega
        have hc1 : c ≤ 1048576 := by omega
        rw [← hcc]
        have C0 := hide (fun r hr => szEntryS_any ai l m ci c wr hmm.symm hsx.1 hs1 hsx.2 hc0' hc1 r hr)
        have HC := hide hcc
        have HTK := hide htk
        have HLE := hide hle
        have B0 := hide hbel
        clear hcc htk hle hbel hl hmm hs1 hs0 hc0 hsx
        by_cases hfit : (wt l : Int) ≤ c
        · obtain ⟨d, hd'⟩ : ∃ d, d = c - (wt l : Int) := ⟨_, rfl⟩
          have C := hide (C0.out d (by rw [if_pos hfit]; exact hd'))
          have hd0 : ¬ d < 0 := by omega
          have HD := hide hd'
          clear hd' C0
          go_wp2_with fail
          refine C.out.mono ?_
          rintro e w1 ⟨rfl, hb1⟩
          have B1 := hide (B0.out.trans (hb1.mono B0.out.size))
          clear hb1
          go_wp2
          go_roundw
          case rel => exact ⟨k + 1, by omega, by go_num, by rw [HD.out, HC.out, HTK.out]; go_num, by show (wts (ls.take (k + 1)) : Int) ≤ L - (n : Int); have := HC.out; have := HTK.out; omega, B1.out⟩
          case measure => simp [intOf]; omega
        · have C := hide (C0.out (-1) (by rw [if_neg hfit]))
          have E : Hid (r = -1) := by show r = -1; have := HC.out; have := HTK.out; have := HLE.out; rw [HR.out, HW.out, if_neg (by omega)]
          clear hfit C0
          go_wp2_with fail
          refine C.out.mono ?_
          rintro e w1 ⟨rfl, hb1⟩
          have B1 := hide (B0.out.trans (hb1.mono B0.out.size))
          clear hb1
          go_wp2
          go_ret
          exact ⟨by rw [E.out]; rfl, B1.out⟩
      · obtain rfl : k = n := by omega
        have hltI : ¬ (k : Int) < (k : Int) := by omega
        have e1 : ls.take k = ls := List.take_of_length_le (by rw [HN.out]; exact Nat.le_refl _)
        rw [e1] at HK ⊢
        have E : Hid (r = L - (k : Int) - (wts ls : Int)) := by show r = _; have := HK.out; rw [HR.out, HW.out, if_pos (by omega)]; omega
        clear e1
        go_wp2
        go_ret
        exact ⟨by rw [E.out]; rfl, hbel⟩

/-- Logs that the caller owns: a row of slices at block B, each of which has a block of its own behind it, rising. -/
structure OwnG (w : World) (B : Nat) (ls : List (List En)) (g : Nat → Nat) (m : Nat) : Prop where
  cell : ∀ i, i < m → w.cell? ⟨B, i, none⟩ = some (.slice (some ⟨g i, 0, none⟩) (ls.getD i []).length (ls.getD i []).length)
  own : ∀ i, i < m → w.ownsRow (B + 1) 93 2 (.slice (some ⟨g i, 0, none⟩) (ls.getD i []).length (ls.getD i []).length) (ls.getD i []).length (flatE (ls.getD i []))
  rise : ∀ i j, i < j → j < m → g i < g j
  lt : ∀ i, i < m → g i < w.heap.size
theorem OwnG.sl {w : World} {B : Nat} {ls : List (List En)} {g : Nat → Nat} (h : OwnG w B ls g ls.length) : SlG w (some ⟨B, 0, none⟩) ls := fun i hi =>
  ⟨B, 0, rfl, _, _, by simpa using h.cell i hi, own_slE (h.own i hi)⟩
theorem OwnG.below {w w' : World} {B : Nat} {ls : List (List En)} {g : Nat → Nat} {m : Nat} (h : OwnG w B ls g m) (hb : Below w.heap.size w w') : OwnG w' B ls g m :=
  ⟨fun i hi => (hb.cell (p := ⟨B, i, none⟩) (blk_lt (h.cell i hi))).trans (h.cell i hi), fun i hi => own_belowT (h.own i hi) hb, h.rise, fun i hi => Nat.lt_of_lt_of_le (h.lt i hi) hb.size⟩

set_option maxRecDepth 100000 in
set_option maxHeartbeats 4000000 in
theorem toEntrySS_any (a : Option Addr) (ls : List (List En)) (n cap : Nat) (w : World) (hn : ls.length = n) (hs : SlG w a ls) (hn2 : n ≤ 1048576) (hls : ∀ i, i < ls.length → (ls.getD i []).length ≤ 1048576) :
    Calls Try.prog 57 #[.slice a n cap] w fun e w' => e = .returned (.slice (some ⟨w.heap.size, 0, none⟩) n n) ∧ (∃ g, OwnG w' w.heap.size ls g n) ∧ w.heap.size < w'.heap.size ∧ Below w.heap.size w w' := by
  obtain ⟨i0, hi, hz0, hz1, hz2⟩ := info_parts info_entsG
  obtain ⟨w1, hmk, hown1, hg1⟩ := run_make_full (P := Try.prog) w w.heap.size 28 30 i0 (.slice none 0 0) 1 Try.underlying28 hi hz0 hz1 .i64 .i64 n (by rw [hz2]; omega) (by unfold maxLen; omega) (Nat.le_refl _)
  have hb1 : Below w.heap.size w w1 := (Below.refl _ _).grown hg1 (Nat.le_refl _) (fun k hk => by cases hk)
  obtain ⟨v0, hv0⟩ : ∃ v0, v0 = (madeCells (Value.slice none 0 0).cells (n * 1)).toList := ⟨_, rfl⟩
  rw [← hv0] at hown1
  have hlt1 : w.heap.size < w1.heap.size := (hown1.lt w.heap.size rfl).2
  have HO := hide hown1
  have HS := hide hs
  have HN := hide hn
  have HLS := hide hls
  clear hown1 hg1 hs hn hls hv0
  go_enter Try.func57, Try.ntmps57
  go_wp2
  go_loopw [4] (fun i wr => ∃ (k : Nat) (vs : List Value) (g : Nat → Nat), k ≤ n ∧ i = .int .i64 k ∧ wr.ownsRow w.heap.size 30 1 (.slice (some ⟨w.heap.size, 0, none⟩) n n) n vs ∧ OwnG wr w.heap.size ls g k ∧ Below w.heap.size w wr) (fun i _ => n - (intOf i).toNat)
  case atStart => exact ⟨0, v0, fun _ => 0, Nat.zero_le _, rfl, HO, ⟨fun i hi => absurd hi (Nat.not_lt_zero _), fun i hi => absurd hi (Nat.not_lt_zero _), fun i j _ hj => absurd hj (Nat.not_lt_zero _), fun i hi => absurd hi (Nat.not_lt_zero _)⟩, hb1⟩
  case round =>
    obtain ⟨k, vs, g, hk, rfl, hown, hos, hbel⟩ := hrel
    by_cases hlt : k < n
    · obtain ⟨b, off, rfl, ai, ci, hc0, hs0⟩ := HS.out k (by rw [HN.out]; exact hlt)
      have hc := (hbel.cell (p := ⟨b, off + k, none⟩) (blk_lt hc0)).trans hc0
      have hs1 := hs0.below hbel
      have hlx := HLS.out k (by rw [HN.out]; exact hlt)
      obtain ⟨l, hl⟩ : ∃ l, l = ls.getD k [] := ⟨_, rfl⟩
      rw [← hl] at hc hs1 hlx
      obtain ⟨m, hmm⟩ : ∃ m, m = l.length := ⟨_, rfl⟩
      rw [← hmm] at hc hlx
      have hltI : (k : Int) < (n : Int) := by omega
      have C := hide (toEntryS_any ai l m ci wr hmm.symm hs1 hlx)
      have hwB : w.heap.size < wr.heap.size := (hown.lt w.heap.size rfl).2
      have HLL := hide hl.symm
      have HMM := hide hmm.symm
      have HO2 := hide hown
      have HOS := hide hos
      have HB2 := hide hbel
      clear hc0 hs0 hs1 hl hmm hown hos hbel
      go_wp2_with fail
      refine C.out.mono ?_
      rintro e w2 ⟨rfl, ho2, hb2⟩
      have hown2 := own_belowT HO2.out hb2
      have hbel2 := HB2.out.trans (hb2.mono HB2.out.size)
      have hcl := hown2.cellAt k (by omega)
      have hfr := hown2.frozenAt k
      have hvl : vs.length = n := by have := hown2.1; omega
      obtain ⟨v, hv⟩ : ∃ v, w2.cell? ⟨w.heap.size, k, none⟩ = some v := ⟨_, hcl.trans (List.getElem?_eq_getElem (by omega))⟩
      have hst := hown2.stored k (.slice (some ⟨wr.heap.size, 0, none⟩) m m)
      have hgl := (ho2.lt wr.heap.size rfl).2
      have R : ∃ (k' : Nat) (vs' : List Value) (g' : Nat → Nat), k' ≤ n ∧ Value.int .i64 ((k : Int) + 1) = .int .i64 k' ∧ (w2.setCell ⟨w.heap.size, k, none⟩ (.slice (some ⟨wr.heap.size, 0, none⟩) m m)).ownsRow w.heap.size 30 1 (.slice (some ⟨w.heap.size, 0, none⟩) n n) n vs' ∧ OwnG (w2.setCell ⟨w.heap.size, k, none⟩ (.slice (some ⟨wr.heap.size, 0, none⟩) m m)) w.heap.size ls g' k' ∧ Below w.heap.size w (w2.setCell ⟨w.heap.size, k, none⟩ (.slice (some ⟨wr.heap.size, 0, none⟩) m m)) := by
        refine ⟨k + 1, vs.set k (.slice (some ⟨wr.heap.size, 0, none⟩) m m), fun i => if i = k then wr.heap.size else g i, by omega, by simp, hst.1, ⟨fun i hi => ?_, fun i hi => ?_, fun i j hij hj => ?_, fun i hi => ?_⟩, hbel2.setCell (p := ⟨w.heap.size, k, none⟩) (Nat.le_refl _) _⟩
        · by_cases e : i = k
          · subst e
            simp only [↓reduceIte]
            rw [HLL.out, HMM.out]
            have := hst.1.cellAt i (by omega)
            rw [this, List.getElem?_set_self (by omega)]
          · simp only [if_neg e]
            rw [World.cell?_setCell_other _ _ _ _ (fun h => e (by simp at h <;> omega))]
            exact (HOS.out.below hb2).cell i (by omega)
        · by_cases e : i = k
          · subst e
            simp only [↓reduceIte]
            rw [HLL.out, HMM.out]
            exact (own_baseT ho2 (by omega)).kept hst.2 (own_neG (own_baseT ho2 (show w.heap.size + 1 ≤ wr.heap.size by omega)) (Nat.lt_succ_self _))
          · simp only [if_neg e]
            have := (HOS.out.below hb2).own i (by omega)
            exact this.kept hst.2 (own_neG this (Nat.lt_succ_self _))
        · by_cases e : j = k
          · have e2 : ¬ i = k := by omega
            simp only [if_pos e, if_neg e2]
            exact HOS.out.lt i (by omega)
          · have e2 : ¬ i = k := by omega
            simp only [if_neg e, if_neg e2]
            exact HOS.out.rise i j hij (by omega)
        · have hz := hb2.size
          by_cases e : i = k
          · simp only [if_pos e]; simp; omega
          · simp only [if_neg e]
            have := HOS.out.lt i (by omega)
            simp; omega
      have HR := hide R
      clear hcl hvl hst hown2 hbel2 ho2 hb2 R
      go_wp2
      go_roundw
      case rel => exact HR.out
      case measure => simp [intOf]; omega
    · obtain rfl : k = n := by omega
      have hltI : ¬ (k : Int) < (k : Int) := by omega
      have HOS := hide hos
      have hnew := (hown.lt w.heap.size rfl).2
      clear hos hown
      go_wp2
      go_ret
      exact ⟨rfl, ⟨g, HOS.out⟩, hnew, hbel⟩

theorem keepG {wa wb : World} {B1 O1 B2 O2 N : Nat} {v1 v2 : Value} {W : World} (h : (wa.cell? ⟨B1, O1, none⟩ = some v1 ∧ wa.cell? ⟨B2, O2, none⟩ = some v2) ∧ Below N W wa) (hb : Below wa.heap.size wa wb) (hN : N ≤ W.heap.size) : (wb.cell? ⟨B1, O1, none⟩ = some v1 ∧ wb.cell? ⟨B2, O2, none⟩ = some v2) ∧ Below N W wb := by
  obtain ⟨⟨h1, h2⟩, h3⟩ := h
  exact ⟨⟨(hb.cell (p := ⟨B1, O1, none⟩) (blk_lt h1)).trans h1, (hb.cell (p := ⟨B2, O2, none⟩) (blk_lt h2)).trans h2⟩, h3.trans (hb.mono (Nat.le_trans hN h3.size))⟩
set_option maxRecDepth 100000 in
set_option maxHeartbeats 2000000 in
theorem eqEntrySS_same (a b : Option Addr) (ls : List (List En)) (n c1 c2 : Nat) (w : World) (hn : ls.length = n) (ha : SlG w a ls) (hb : SlG w b ls) (hn2 : n ≤ 1048576) (hls : ∀ i, i < ls.length → (ls.getD i []).length ≤ 1048576) :
    Calls Try.prog 43 #[.slice a n c1, .slice b n c2] w fun e w' => e = .returned (.bool true) ∧ Below w.heap.size w w' := by
  have HA := hide ha
  have HB := hide hb
  have HN := hide hn
  have HLS := hide hls
  clear ha hb hn hls
  go_enter Try.func43, Try.ntmps43
  go_wp2
  go_loopw [5] (fun i wr => ∃ k : Nat, k ≤ n ∧ i = .int .i64 k ∧ Below w.heap.size w wr) (fun i _ => n - (intOf i).toNat)
  case atStart => exact ⟨0, Nat.zero_le _, rfl, Below.refl _ _⟩
  case round =>
    obtain ⟨k, hk, rfl, hbel⟩ := hrel
    by_cases hlt : k < n
    · obtain ⟨b1, o1, rfl, x1, q1, h1, s1⟩ := HA.out k (by rw [HN.out]; exact hlt)
      obtain ⟨b2, o2, rfl, x2, q2, h2, s2⟩ := HB.out k (by rw [HN.out]; exact hlt)
      have g1 := (hbel.cell (p := ⟨b1, o1 + k, none⟩) (blk_lt h1)).trans h1
      have g2 := (hbel.cell (p := ⟨b2, o2 + k, none⟩) (blk_lt h2)).trans h2
      have t1 := s1.below hbel
      have t2 := s2.below hbel
      have hlx := HLS.out k (by rw [HN.out]; exact hlt)
      obtain ⟨l, hl⟩ : ∃ l, l = ls.getD k [] := ⟨_, rfl⟩
      rw [← hl] at g1 g2 t1 t2 hlx
      obtain ⟨m, hmm⟩ : ∃ m, m = l.length := ⟨_, rfl⟩
      rw [← hmm] at g1 g2 hlx
      have hltI : (k : Int) < (n : Int) := by omega
      have hk0 : (0 : Int) ≤ (k : Int) := by omega
      have C := hide (fun wx (hb : Below wr.heap.size wr wx) => eqEntryS_same x1 x2 l m q1 q2 wx hmm.symm (t1.below hb) (t2.below hb) hlx)
      clear h1 h2 s1 s2 t1 t2 hl hmm
      go_wp2
      go_region_held3 (fun wx => (wx.cell? ⟨b1, o1 + k, none⟩ = some (.slice x1 m q1) ∧ wx.cell? ⟨b2, o2 + k, none⟩ = some (.slice x2 m q2)) ∧ Below wr.heap.size wr wx) (first | exact ⟨⟨g1, g2⟩, (Below.refl _ _).drew⟩ | exact keepG (by assumption) (by assumption) (Nat.le_refl _)) ((go_at_call 44; refine (C.out _ (by first | exact And.right (by assumption) | exact (Below.refl _ _).drew | exact Below.refl _ _)).mono ?_; rintro e w1 ⟨rfl, hb⟩))
      rename_i hHeld
      have B1 := hide (hbel.trans (hHeld.2.mono hbel.size))
      clear hHeld
      go_wp2
      go_roundw
      case rel => exact ⟨k + 1, by omega, by go_num, B1.out⟩
      case measure => simp [intOf]; omega
    · have hltI : ¬ (k : Int) < (n : Int) := by omega
      go_wp2
      go_ret
      exact ⟨rfl, hbel⟩
end Go.Proofs.Ytbcljhafdpnjbbd.L9
