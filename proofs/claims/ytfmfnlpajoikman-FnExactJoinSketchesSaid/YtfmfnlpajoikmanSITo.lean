/-
  Contract of the laws' own helper toIntSS.
-/
import Derived.Test.YtfmfnlpajoikmanSI
import Derived.Test.YtfmfnlpajoikmanL1Lists
namespace Go.Proofs.Ytfmfnlpajoikman.Sli
open Go.RowKit L1 Own
set_option linter.unusedVariables false

theorem info_ints : (Try.prog.info? 41).map (fun i => (i.zero, i.size, i.bytes)) = some (some (.slice none 0 0), 1, 24) := by kernel_rfl
theorem own_neI {w : World} {base n cap g c : Nat} {t : TypeId} {a : Option Addr} {xs : List Value} (h : w.ownsRow base t c (.slice a n cap) n xs) (hg : g < base) : (Value.slice a n cap).ownBlock = none ∨ (Value.slice a n cap).ownBlock ≠ some g := by
  cases a with
  | none => exact .inl rfl
  | some x =>
    refine .inr fun e => ?_
    have := (h.lt g e).1
    omega
/-- Lists that the caller owns: a row of slices at block B, each of which has a block of its own behind it, rising. -/
structure OwnSI (w : World) (B : Nat) (ls : List (List Int)) (g : Nat → Nat) (m : Nat) : Prop where
  cell : ∀ i, i < m → w.cell? ⟨B, i, none⟩ = some (.slice (some ⟨g i, 0, none⟩) (ls.getD i []).length (ls.getD i []).length)
  own : ∀ i, i < m → w.ownsRow (B + 1) 3 1 (.slice (some ⟨g i, 0, none⟩) (ls.getD i []).length (ls.getD i []).length) (ls.getD i []).length (((ls.getD i []).map (Value.int .i64)))
  rise : ∀ i j, i < j → j < m → g i < g j
  lt : ∀ i, i < m → g i < w.heap.size
theorem OwnSI.sl {w : World} {B : Nat} {ls : List (List Int)} {g : Nat → Nat} (h : OwnSI w B ls g ls.length) : SlSI w (some ⟨B, 0, none⟩) ls := fun i hi =>
  ⟨B, 0, rfl, _, _, by simpa using h.cell i hi, own_slI (h.own i hi)⟩
theorem OwnSI.below {w w' : World} {B : Nat} {ls : List (List Int)} {g : Nat → Nat} {m : Nat} (h : OwnSI w B ls g m) (hb : Below w.heap.size w w') : OwnSI w' B ls g m :=
  ⟨fun i hi => (hb.cell (p := ⟨B, i, none⟩) (blk_lt (h.cell i hi))).trans (h.cell i hi), fun i hi => own_belO (h.own i hi) hb, h.rise, fun i hi => Nat.lt_of_lt_of_le (h.lt i hi) hb.size⟩

set_option maxRecDepth 100000 in
set_option maxHeartbeats 4000000 in
theorem toIntSS_any (a : Option Addr) (ls : List (List Int)) (n cap : Nat) (w : World) (hn : ls.length = n) (hs : SlSI w a ls) (hn2 : n ≤ 1048576) (hls : ∀ i, i < ls.length → (ls.getD i []).length ≤ 1048576) :
    Calls Try.prog 37 #[.slice a n cap] w fun e w' => e = .returned (.slice (some ⟨w.heap.size, 0, none⟩) n n) ∧ ((∃ g, OwnSI w' w.heap.size ls g n) ∧ ∃ vs, w'.ownsRow w.heap.size 41 1 (.slice (some ⟨w.heap.size, 0, none⟩) n n) n vs) ∧ w.heap.size < w'.heap.size ∧ Below w.heap.size w w' := by
  obtain ⟨i0, hi, hz0, hz1, hz2⟩ := info_parts info_ints
  obtain ⟨w1, hmk, hown1, hg1⟩ := run_make_full (P := Try.prog) w w.heap.size 22 41 i0 (.slice none 0 0) 1 Try.underlying22 hi hz0 hz1 .i64 .i64 n (by rw [hz2]; omega) (by unfold maxLen; omega) (Nat.le_refl _)
  have hb1 : Below w.heap.size w w1 := (Below.refl _ _).grown hg1 (Nat.le_refl _) (fun k hk => by cases hk)
  obtain ⟨v0, hv0⟩ : ∃ v0, v0 = (madeCells (Value.slice none 0 0).cells (n * 1)).toList := ⟨_, rfl⟩
  rw [← hv0] at hown1
  have hlt1 : w.heap.size < w1.heap.size := (hown1.lt w.heap.size rfl).2
  have HO := hide hown1
  have HS := hide hs
  have HN := hide hn
  have HLS := hide hls
  clear hown1 hg1 hs hn hls hv0
  go_enter Try.func37, Try.ntmps37
  go_wp2
  go_loopw [4] (fun i wr => ∃ (k : Nat) (vs : List Value) (g : Nat → Nat), k ≤ n ∧ i = .int .i64 k ∧ wr.ownsRow w.heap.size 41 1 (.slice (some ⟨w.heap.size, 0, none⟩) n n) n vs ∧ OwnSI wr w.heap.size ls g k ∧ Below w.heap.size w wr) (fun i _ => n - (intOf i).toNat)
  case atStart => exact ⟨0, v0, fun _ => 0, Nat.zero_le _, rfl, HO, ⟨fun i hi => absurd hi (Nat.not_lt_zero _), fun i hi => absurd hi (Nat.not_lt_zero _), fun i j _ hj => absurd hj (Nat.not_lt_zero _), fun i hi => absurd hi (Nat.not_lt_zero _)⟩, hb1⟩
  case round =>
    obtain ⟨k, vs, g, hk, rfl, hown, hos, hbel⟩ := hrel
    by_cases hlt : k < n
    · obtain ⟨b, off, rfl, ai, ci, hc0, hs0⟩ := HS.out k (by rw [HN.out]; exact hlt)
      have hc := (hbel.cell (p := ⟨b, off + k, none⟩) (blk_lt hc0)).trans hc0
      have hs1 := hs0.below hbel
      have hlx := HLS.out k (by rw [HN.out]; exact hlt)
      obtain ⟨l, hl⟩ : ∃ l, l = ls.getD k [] := ⟨_, rfl⟩
      rw [← hl] at hc hs1 hlx
      obtain ⟨m, hmm⟩ : ∃ m, m = l.length := ⟨_, rfl⟩
      rw [← hmm] at hc hlx
      have hltI : (k : Int) < (n : Int) := by omega
      have C := hide (toIntS_any ai l m ci wr hmm.symm hs1 hlx)
      have hwB : w.heap.size < wr.heap.size := (hown.lt w.heap.size rfl).2
      have HLL := hide hl.symm
      have HMM := hide hmm.symm
      have HO2 := hide hown
      have HOS := hide hos
      have HB2 := hide hbel
      clear hc0 hs0 hs1 hl hmm hown hos hbel
      go_wp2_with fail
      refine C.out.mono ?_
      rintro e w2 ⟨rfl, ho2, hb2⟩
      have hown2 := own_belO HO2.out hb2
      have hbel2 := HB2.out.trans (hb2.mono HB2.out.size)
      have hcl := hown2.cellAt k (by omega)
      have hfr := hown2.frozenAt k
      have hvl : vs.length = n := by have := hown2.1; omega
      obtain ⟨v, hv⟩ : ∃ v, w2.cell? ⟨w.heap.size, k, none⟩ = some v := ⟨_, hcl.trans (List.getElem?_eq_getElem (by omega))⟩
      have hst := hown2.stored k (.slice (some ⟨wr.heap.size, 0, none⟩) m m)
      have hgl := (ho2.lt wr.heap.size rfl).2
      have R : ∃ (k' : Nat) (vs' : List Value) (g' : Nat → Nat), k' ≤ n ∧ Value.int .i64 ((k : Int) + 1) = .int .i64 k' ∧ (w2.setCell ⟨w.heap.size, k, none⟩ (.slice (some ⟨wr.heap.size, 0, none⟩) m m)).ownsRow w.heap.size 41 1 (.slice (some ⟨w.heap.size, 0, none⟩) n n) n vs' ∧ OwnSI (w2.setCell ⟨w.heap.size, k, none⟩ (.slice (some ⟨wr.heap.size, 0, none⟩) m m)) w.heap.size ls g' k' ∧ Below w.heap.size w (w2.setCell ⟨w.heap.size, k, none⟩ (.slice (some ⟨wr.heap.size, 0, none⟩) m m)) := by
        refine ⟨k + 1, vs.set k (.slice (some ⟨wr.heap.size, 0, none⟩) m m), fun i => if i = k then wr.heap.size else g i, by omega, by simp, hst.1, ⟨fun i hi => ?_, fun i hi => ?_, fun i j hij hj => ?_, fun i hi => ?_⟩, hbel2.setCell (p := ⟨w.heap.size, k, none⟩) (Nat.le_refl _) _⟩
        · by_cases e : i = k
          · subst e
            simp only [↓reduceIte]
            rw [HLL.out, HMM.out]
            have := hst.1.cellAt i (by omega)
            rw [this, List.getElem?_set_self (by omega)]
          · simp only [if_neg e]
            rw [World.cell?_setCell_other _ _ _ _ (fun h => e (by simp at h <;> omega))]
            exact (HOS.out.below hb2).cell i (by omega)
        · by_cases e : i = k
          · subst e
            simp only [↓reduceIte]
            rw [HLL.out, HMM.out]
            exact (own_baseI ho2 (by omega)).kept hst.2 (own_neI (own_baseI ho2 (show w.heap.size + 1 ≤ wr.heap.size by omega)) (Nat.lt_succ_self _))
          · simp only [if_neg e]
            have := (HOS.out.below hb2).own i (by omega)
            exact this.kept hst.2 (own_neI this (Nat.lt_succ_self _))
        · by_cases e : j = k
          · have e2 : ¬ i = k := by omega
            simp only [if_pos e, if_neg e2]
            exact HOS.out.lt i (by omega)
          · have e2 : ¬ i = k := by omega
            simp only [if_neg e, if_neg e2]
            exact HOS.out.rise i j hij (by omega)
        · have hz := hb2.size
          by_cases e : i = k
          · simp only [if_pos e]; simp; omega
          · simp only [if_neg e]
            have := HOS.out.lt i (by omega)
            simp; omega
      have HR := hide R
      clear hcl hvl hst hown2 hbel2 ho2 hb2 R
      go_wp2
      go_roundw
      case rel => exact HR.out
      case measure => simp [intOf]; omega
    · obtain rfl : k = n := by omega
      have hltI : ¬ (k : Int) < (k : Int) := by omega
      have HOS := hide hos
      have hnew := (hown.lt w.heap.size rfl).2
      have HOWN := hide hown
      clear hos hown
      go_wp2
      go_ret
      exact ⟨rfl, ⟨⟨g, HOS.out⟩, vs, HOWN.out⟩, hnew, hbel⟩

end Go.Proofs.Ytfmfnlpajoikman.Sli
