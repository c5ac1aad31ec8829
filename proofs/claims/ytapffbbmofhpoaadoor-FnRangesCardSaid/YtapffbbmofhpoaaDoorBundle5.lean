/-
  Contract: spec.l1GetAll: of at most 600 bytes the numbers with this text, in new memory, and true; else no list and false.
  Contract: impl.getEach: the numbers with a text, at most so many, in new memory, and true; else no list and false.
  Plain facts on the numbers of a chunk and the samples that they tell.
  Contract: impl.DecodeChunk: the good samples with a text, in new memory, and true, where there are such; else no list and false.
  Contracts: spec.l2Decode, spec.DecodeChunk: the good samples with a text, in new memory, and true, where there are such; else no list and false.
  Contracts: impl.RangeOf and spec.RangeOf: of a text's samples those from a time on, up to another one.
  Contract: impl.chunkNumbers: of good samples the numbers of their chunk, in new memory, and true; of others no list and false.
  Contract: impl.digitsOf tells how many digits to 128 a number from 0 to 2000000000000 has, where the table of worths holds what its initialiser lays.
-/
import Derived.Test.YtapffbbmofhpoaaDoorBundle1
import Derived.Test.YtapffbbmofhpoaaDoorBundle4
import Derived.Test.YtapffbbmofhpoaaDoorBundle3
import Derived.Deep.AppendLies
import Derived.Test.YtapffbbmofhpoaaDoorBundle2
namespace Go.Proofs.YtapffbbmofhpoaaDoor.L1
open Go.RowKit
set_option linter.unusedVariables false

theorem bts_drop (s : ByteArray) (a m : Nat) : (bts s a).drop m = bts s (a + m) := by
  simp [bts, List.drop_drop]
theorem bts_end (s : ByteArray) (a : Nat) (h : s.size ≤ a) : bts s a = [] := by
  apply List.eq_nil_of_length_eq_zero
  rw [bts_len]
  omega

set_option maxRecDepth 100000 in
set_option maxHeartbeats 1000000 in
theorem l1GetAll_any (s : ByteArray) (w : World) (hs : s.size ≤ 600) :
    Calls Tryd.prog 88 #[.string s] w fun e w' => RetL w (gall (bts s 0)) e w' := by
  obtain ⟨i0, hi, hz0, hz1, hz2⟩ := info_parts info_int
  go_enter Tryd.func88, Tryd.ntmps88
  go_wp2
  go_loopw [4, 5] (fun o i wr => ∃ (a : Nat) (xs : List Int), a ≤ s.size ∧ xs.length ≤ a ∧ i = .int .i64 a ∧ Hid (gall (bts s 0) = (gall (bts s a)).map fun r => xs ++ r) ∧
      wr.ownsRow w.heap.size 3 1 o xs.length (xs.map (Value.int .i64)) ∧ Below w.heap.size w wr) (fun _ i _ => s.size - (intOf i).toNat)
  case atStart => exact ⟨0, [], by omega, by simp, rfl, by show _ = _; cases gall (bts s 0) <;> simp, World.ownsRow_nil _ _ _ _, Below.refl _ _⟩
  case round =>
    obtain ⟨a, xs, ha, hxa, rfl, HG, hown, hbel⟩ := hrel
    by_cases hlt : a < s.size
    · have hltI : (a : Int) < (s.size : Int) := by omega
      have hgc := l1Get_any s a wr hlt (by omega)
      have h0 : 0 < (bts s a).length := by rw [bts_len]; omega
      cases hgv : gv (bts s a) with
      | none =>
        have hst := gall_stop h0 hgv HG.out
        rw [hgv] at hgc
        simp only [lgRes] at hgc
        have HC := hide hgc
        have HST := hide hst
        have HO := hide hown
        clear hgc hst hgv h0 hown
        go_wp2_with fail
        refine (unhide HC).mono ?_
        rintro e w1 ⟨rfl, hb1⟩
        go_wp2
        go_ret2
        exact ⟨_, by rw [HST.out]; rfl, by rw [HST.out]; exact World.ownsRow_nil _ _ _ _, hbel.trans (hb1.mono hbel.size)⟩
      | some l =>
        have hl := gv_some hgv
        rw [bts_len] at hl
        have hst := gall_step h0 hgv HG.out
        rw [bts_drop] at hst
        rw [hgv] at hgc
        simp only [lgRes] at hgc
        obtain ⟨m, hm⟩ : ∃ m, m = a + l.length := ⟨_, rfl⟩
        rw [← hm] at hgc hst
        have hm1 : a < m := by omega
        have hm2 : m ≤ s.size := by omega
        have hm0 : ¬ (m : Int) < 0 := by omega
        obtain ⟨x, hx⟩ : ∃ x, x = zag (val l) := ⟨_, rfl⟩
        rw [← hx] at hgc hst
        have HC := hide hgc
        have HST := hide hst
        clear hgc hst hgv h0 hm hx hl
        go_wp2_with fail
        refine (unhide HC).mono ?_
        rintro e w1 ⟨rfl, hb1⟩
        have hown1 := own_below hown hb1
        have hbel1 : Below w.heap.size w w1 := hbel.trans (hb1.mono hbel.size)
        clear hown hb1 hbel
        go_wp2_with (first
          | (at_builtin; refine wpList_append_own _ rfl _ _ 32 rfl w.heap.size 3 i0 (.int .i64 0) 1 8 Tryd.underlying32 hi hz0 hz1 hz2 rfl (by decide) _ _ _ rfl (hown1.alloc _) ⟨w1.heap.size, 0, none⟩ 1 1 [.int .i64 x] rfl rfl (cell_one_new _ _ _) (by intro u hu; simp at hu; subst hu; rfl) (by unfold maxLen; omega) (by omega) (by have := hbel1.size; simp; omega) ?_)
          | go_in)
        intro v' w2 hown' hgrow _
        have hb2 : Below w.heap.size w w2 := (hbel1.alloc hbel1.size _).grown hgrow (by have := hbel1.size; simp; omega) (fun k hk => (hown1.lt k hk).1)
        have hown2 : w2.ownsRow w.heap.size 3 1 v' (xs ++ [x]).length ((xs ++ [x]).map (Value.int .i64)) := by simpa using hown'
        clear hown' hgrow hown1
        go_wp2
        go_roundw
        case rel => exact ⟨m, xs ++ [x], hm2, by simp; omega, rfl, HST.out, hown2, hb2⟩
        case measure => simp [intOf]; omega
    · have hltI : ¬ (a : Int) < (s.size : Int) := by omega
      have hst : gall (bts s 0) = some xs := by
        rw [HG.out, bts_end s a (by omega), gall_nil]
        simp
      have HST := hide hst
      have HO := hide hown
      clear hst hown
      go_wp2
      go_ret2
      exact ⟨_, by rw [HST.out]; rfl, by rw [HST.out]; exact HO.out, hbel⟩
end Go.Proofs.YtapffbbmofhpoaaDoor.L1

namespace Go.Proofs.YtapffbbmofhpoaaDoor.L1
open Go.RowKit
set_option linter.unusedVariables false

/-- The numbers of a text that are at most M. -/
def geRes (M : Nat) (t : List Int) : Option (List Int) := (gall t).bind (fun xs => if xs.length ≤ M then some xs else none)
theorem geRes_none {M : Nat} {t : List Int} (h : gall t = none) : geRes M t = none := by unfold geRes; rw [h]; simp
theorem geRes_over {M : Nat} {t : List Int} (h : ∀ ys, gall t = some ys → M < ys.length) : geRes M t = none := by
  unfold geRes
  cases hg : gall t with
  | none => simp
  | some ys =>
    have := h ys hg
    simp
    omega

set_option maxRecDepth 100000 in
set_option maxHeartbeats 1000000 in
theorem getEach_any (M : Nat) (hM : M ≤ 81) (s : ByteArray) (w : World) (hs : s.size ≤ 1048576) (ht : Tab w) :
    Calls Tryd.prog 87 #[.string s, .int .i64 (M : Int)] w fun e w' => RetL w (geRes M (bts s 0)) e w' := by
  have HT := hide ht
  clear ht
  obtain ⟨i0, hi, hz0, hz1, hz2⟩ := info_parts info_int
  go_enter Tryd.func87, Tryd.ntmps87
  go_wp2
  go_loopw [6, 7] (fun o i wr => ∃ (a : Nat) (xs : List Int), a ≤ s.size ∧ xs.length ≤ M ∧ i = .int .i64 a ∧ Hid (gall (bts s 0) = (gall (bts s a)).map fun r => xs ++ r) ∧
      wr.ownsRow w.heap.size 3 1 o xs.length (xs.map (Value.int .i64)) ∧ Below w.heap.size w wr) (fun _ i _ => s.size - (intOf i).toNat)
  case atStart => exact ⟨0, [], by omega, by simp, rfl, by show _ = _; cases gall (bts s 0) <;> simp, World.ownsRow_nil _ _ _ _, Below.refl _ _⟩
  case round =>
    obtain ⟨a, xs, ha, hxa, rfl, HG, hown, hbel⟩ := hrel
    obtain ⟨oa, ocap, rfl, _, _⟩ := own_form hown
    by_cases hlt : a < s.size
    · have hltI : (a : Int) < (s.size : Int) := by omega
      have hgc := getVarint_any s a wr hlt (by unfold maxLen; omega) (HT.out.below hbel)
      have h0 : 0 < (bts s a).length := by rw [bts_len]; omega
      cases hgv : gv (bts s a) with
      | none =>
        have hst := geRes_none (M := M) (gall_stop h0 hgv HG.out)
        rw [hgv] at hgc
        simp only [gvRes] at hgc
        have HC := hide hgc
        have HST := hide hst
        clear hgc hst hgv h0 hown
        go_wp2_with fail
        refine (unhide HC).mono ?_
        rintro e w1 ⟨rfl, rfl⟩
        go_wp2
        go_ret2
        exact ⟨_, by rw [HST.out]; rfl, by rw [HST.out]; exact World.ownsRow_nil _ _ _ _, hbel⟩
      | some l =>
        have hl := gv_some hgv
        rw [bts_len] at hl
        have hst := gall_step h0 hgv HG.out
        rw [bts_drop] at hst
        rw [hgv] at hgc
        simp only [gvRes] at hgc
        obtain ⟨m, hm⟩ : ∃ m, m = a + l.length := ⟨_, rfl⟩
        rw [← hm] at hgc hst
        have hm1 : a < m := by omega
        have hm2 : m ≤ s.size := by omega
        obtain ⟨x, hx⟩ : ∃ x, x = zag (val l) := ⟨_, rfl⟩
        rw [← hx] at hgc hst
        have HC := hide hgc
        have HST := hide hst
        clear hgc hst hgv h0 hm hx hl
        by_cases h60 : xs.length = M
        · have h60I : ((xs.length : Int) == (M : Int)) = true := by simp; omega
          have hov : geRes M (bts s 0) = none := geRes_over (M := M) (fun ys hy => by
            have := gall_over HST.out hy
            simp at this
            omega)
          have HOV := hide hov
          clear h60 hov hown
          go_wp2_with fail
          refine (unhide HC).mono ?_
          rintro e w1 ⟨rfl, rfl⟩
          go_wp2
          go_ret2
          exact ⟨_, by rw [HOV.out]; rfl, by rw [HOV.out]; exact World.ownsRow_nil _ _ _ _, hbel⟩
        · have h60I : ((xs.length : Int) == (M : Int)) = false := by simp; omega
          have hx2 : xs.length + 1 ≤ M := by omega
          clear h60
          go_wp2_with fail
          refine (unhide HC).mono ?_
          rintro e w1 ⟨rfl, rfl⟩
          go_wp2_with (first
            | (at_builtin; refine wpList_append_own _ rfl _ _ 32 rfl w.heap.size 3 i0 (.int .i64 0) 1 8 Tryd.underlying32 hi hz0 hz1 hz2 rfl (by decide) _ _ _ rfl (hown.alloc _) ⟨wr.heap.size, 0, none⟩ 1 1 [.int .i64 x] rfl rfl (cell_one_new _ _ _) (by intro u hu; simp at hu; subst hu; rfl) (by unfold maxLen; omega) (by omega) (by have := hbel.size; simp; omega) ?_)
            | go_in)
          intro v' w2 hown' hgrow _
          have hb2 : Below w.heap.size w w2 := (hbel.alloc hbel.size _).grown hgrow (by have := hbel.size; simp; omega) (fun k hk => (hown.lt k hk).1)
          have hown2 : w2.ownsRow w.heap.size 3 1 v' (xs ++ [x]).length ((xs ++ [x]).map (Value.int .i64)) := by simpa using hown'
          clear hown' hgrow hown
          go_wp2
          go_roundw
          case rel => exact ⟨m, xs ++ [x], hm2, by simp; omega, rfl, HST.out, hown2, hb2⟩
          case measure => simp [intOf]; omega
    · have hltI : ¬ (a : Int) < (s.size : Int) := by omega
      have hst : geRes M (bts s 0) = some xs := by
        have hg : gall (bts s 0) = some xs := by
          rw [HG.out, bts_end s a (by omega), gall_nil]
          simp
        unfold geRes
        rw [hg]
        simp [hxa]
      have HST := hide hst
      have HO := hide hown
      clear hst hown
      go_wp2
      go_ret2
      exact ⟨_, by rw [HST.out]; rfl, by rw [HST.out]; exact HO.out, hbel⟩
end Go.Proofs.YtapffbbmofhpoaaDoor.L1

namespace Go.Proofs.YtapffbbmofhpoaaDoor.L1
open Go.RowKit
set_option linter.unusedVariables false

theorem sl_tail {w : World} {g off : Nat} {c : Int} {r : List Int} (h : Sl w (some ⟨g, off, none⟩) (c :: r)) : Sl w (some ⟨g, off + 1, none⟩) r := fun i hi => by
  have := h.at (i + 1) (by simpa using hi)
  rw [List.getD_cons_succ] at this
  exact ⟨g, off + 1, rfl, by rw [show off + 1 + i = off + (i + 1) by omega]; exact this⟩
theorem ofNums_ne {c : Int} {r : List Int} (h : ¬ (r.length : Int) = 2 * c) : ofNums (c :: r) = none := by
  simp only [ofNums]; rw [if_neg (fun hh => h hh.1)]
theorem ofNums_eq {c : Int} {r : List Int} (h : (r.length : Int) = 2 * c) (h2 : c ≤ 40) : ofNums (c :: r) = ofPairs r := by
  simp only [ofNums, ofPairs]
  by_cases hg : GoodS (unS (ev r) (od r))
  · rw [if_pos ⟨h, h2, hg⟩, if_pos hg]
  · rw [if_neg (fun hh => hg hh.2.2), if_neg hg]
end Go.Proofs.YtapffbbmofhpoaaDoor.L1

namespace Go.Proofs.YtapffbbmofhpoaaDoor.L1
open Go.RowKit
set_option linter.unusedVariables false

theorem dcRes_ge {t : List Int} : dcRes t = (geRes 81 t).bind ofNums := by
  unfold dcRes geRes
  cases gall t with
  | none => rfl
  | some ys =>
    simp only [Option.bind_some]
    split
    · rfl
    · rename_i h
      cases ys with
      | nil => simp at h
      | cons c r =>
        simp only [ofNums, Option.bind_none]
        rw [if_neg]
        intro hh
        simp at h
        omega
theorem geRes_ok {M : Nat} {s : ByteArray} {ys : List Int} (h : geRes M (bts s 0) = some ys) : OkL ys ∧ ys.length ≤ M := by
  unfold geRes at h
  cases hg : gall (bts s 0) with
  | none => rw [hg] at h; simp at h
  | some zs =>
    rw [hg] at h
    simp only [Option.bind_some] at h
    split at h
    · rename_i hl
      simp at h
      subst h
      exact ⟨okL_of_mem (cat_gall _ _ _ (Nat.le_refl _) (bts_mem s 0) hg).2, hl⟩
    · simp at h

set_option maxRecDepth 100000 in
set_option maxHeartbeats 1000000 in
theorem decodeChunk_any (s : ByteArray) (w : World) (hs : s.size ≤ 1048576) (ht : Tab w) :
    Calls Tryd.prog 40 #[.string s] w fun e w' => RetS w (dcRes (bts s 0)) e w' := by
  have c1 := getEach_any 81 (by omega) s w hs ht
  rw [dcRes_ge]
  cases hge : geRes 81 (bts s 0) with
  | none =>
    rw [hge] at c1
    simp only [RetL, Option.isSome_none, Option.getD_none, Option.bind_none] at c1 ⊢
    have C1 := hide c1
    clear c1 hge ht
    go_enter Tryd.func40, Tryd.ntmps40
    go_wp2_with fail
    refine C1.out.mono ?_
    rintro e w1 ⟨v, rfl, ho, hb1⟩
    obtain ⟨va, vc, rfl, _, _⟩ := own_form ho
    clear ho
    go_wp2
    go_ret2
    exact ⟨_, rfl, World.ownsRow_nil _ _ _ _, hb1⟩
  | some ys =>
    obtain ⟨hok, hlen⟩ := geRes_ok hge
    rw [hge] at c1
    simp only [RetL, Option.isSome_some, Option.getD_some, Option.bind_some] at c1 ⊢
    cases ys with
    | nil =>
      have C1 := hide c1
      clear c1 hge ht hok
      go_enter Tryd.func40, Tryd.ntmps40
      go_wp2_with fail
      refine C1.out.mono ?_
      rintro e w1 ⟨v, rfl, ho, hb1⟩
      obtain ⟨va, vc, rfl, _, _⟩ := own_form ho
      clear ho
      go_wp2
      go_ret2
      exact ⟨_, rfl, World.ownsRow_nil _ _ _ _, hb1⟩
    | cons c r =>
      have hc := hok 0 (by simp)
      have hokr := okL_tail hok
      simp only [List.getD_cons_zero, List.length_cons] at hc hlen c1
      have C1 := hide c1
      obtain ⟨hc1, hc2⟩ := hc
      clear c1 hge ht hok
      by_cases heq : (r.length : Int) = 2 * c
      · rw [ofNums_eq heq (by omega)]
        obtain ⟨m, hm⟩ : ∃ m : Nat, c = (m : Int) := ⟨c.toNat, by omega⟩
        subst hm
        have hrl : r.length = 2 * m := by omega
        rw [hrl] at C1 hlen
        have hm40 : m ≤ 40 := by omega
        obtain ⟨R, hR⟩ : ∃ R, R = ofPairs r := ⟨_, rfl⟩
        rw [← hR]
        by_cases hm0 : m = 0
        · subst hm0
          have C2 := hide (fun a cap w => samplesOf_any a r 0 cap w hrl hm40 (fun i hi => by omega) hokr R hR)
          have hr0 : r = [] := List.eq_nil_of_length_eq_zero (by omega)
          subst hr0
          simp only [Nat.mul_zero, Nat.zero_add] at C1 C2
          clear heq hrl hokr hR hlen hm40
          go_enter Tryd.func40, Tryd.ntmps40
          go_wp2_with fail
          refine C1.out.mono ?_
          rintro e w1 ⟨v, rfl, ho, hb1⟩
          obtain ⟨g, cap, rfl⟩ := ownsRow_succ' (k := 0) ho
          have hs1 := sl_of_own ho
          have hcap : 1 ≤ cap := by
            rcases ho.2 with ⟨h, _⟩ | ⟨g', cap', cur, e, _, _, hle, _⟩
            · simp at h
            · cases e; exact hle
          have hcell := hs1.at 0 (by simp)
          simp only [List.getD_cons_zero, Nat.add_zero] at hcell
          have B1 := hide hb1
          have hcapI : (1 : Int) ≤ (cap : Int) := by omega
          clear ho hs1 hb1
          go_wp2_with fail
          all_goals
            refine (C2.out _ _ _).mono ?_
            rintro e w2 ⟨v2, rfl, ho2, hb2⟩
            obtain ⟨va, vc, rfl, _, _⟩ := own_formS ho2
            have HO2 := hide (own_base ho2 B1.out.size)
            have B2 := hide (B1.out.trans (hb2.mono B1.out.size))
            clear ho2 hb2
            go_wp2
            go_ret2
            exact ⟨_, rfl, HO2.out, B2.out⟩
        · have C2 := hide (fun a cap w hs => samplesOf_any a r m cap w hrl hm40 hs hokr R hR)
          have HRL := hide hrl
          have hm1 : 1 ≤ m := by omega
          clear heq hrl hokr hR
          go_enter Tryd.func40, Tryd.ntmps40
          go_wp2_with fail
          refine C1.out.mono ?_
          rintro e w1 ⟨v, rfl, ho, hb1⟩
          obtain ⟨g, cap, rfl⟩ := ownsRow_succ' ho
          have hs1 := sl_of_own ho
          have hcap : 2 * m + 1 ≤ cap := by
            rcases ho.2 with ⟨h, _⟩ | ⟨g', cap', cur, e, _, _, hle, _⟩
            · simp at h
            · cases e; exact hle
          have hcell := hs1.at 0 (by simp)
          simp only [List.getD_cons_zero, Nat.add_zero] at hcell
          have HS1 := hide hs1
          have B1 := hide hb1
          have hcapI : (2 * (m : Int) + 1) ≤ (cap : Int) := by omega
          have hq0 : ((2 * (m : Int) + 1) == 0) = false := by simp; omega
          have hq1 : ((2 * (m : Int) + 1) != 1 + 2 * (m : Int)) = false := by simp; omega
          have hcp0 : ¬ cap = 1 := by omega
          have hcp1 : ¬ cap - 1 = 0 := by omega
          clear ho hs1 hb1
          go_wp2_with fail
          refine (C2.out _ _ _ (sl_tail HS1.out)).mono ?_
          rintro e w2 ⟨v2, rfl, ho2, hb2⟩
          obtain ⟨va, vc, rfl, _, _⟩ := own_formS ho2
          have HO2 := hide (own_base ho2 B1.out.size)
          have B2 := hide (B1.out.trans (hb2.mono B1.out.size))
          clear ho2 hb2
          go_wp2
          go_ret2
          exact ⟨_, rfl, HO2.out, B2.out⟩
      · have hN : (((r.length : Int) + 1) != 1 + 2 * c) = true := by simp; omega
        have hN0 : (((r.length : Int) + 1) == 0) = false := by simp; omega
        rw [ofNums_ne heq]
        clear hokr heq
        go_enter Tryd.func40, Tryd.ntmps40
        go_wp2_with fail
        refine C1.out.mono ?_
        rintro e w1 ⟨v, rfl, ho, hb1⟩
        obtain ⟨g, cap, rfl⟩ := ownsRow_succ' ho
        have hs1 := sl_of_own ho
        have hcell := hs1.at 0 (by simp)
        simp only [List.getD_cons_zero, Nat.add_zero] at hcell
        clear ho hs1
        go_wp2
        go_ret2
        exact ⟨_, rfl, World.ownsRow_nil _ _ _ _, hb1⟩
end Go.Proofs.YtapffbbmofhpoaaDoor.L1

namespace Go.Proofs.YtapffbbmofhpoaaDoor.L1
open Go.RowKit
set_option linter.unusedVariables false

theorem sm_bd2 {l : List Int} (h : ∀ j, j < l.length → -40000000000000 ≤ l.getD j 0 ∧ l.getD j 0 ≤ 40000000000000) : ∀ k : Nat, k ≤ l.length → -(40000000000000 * (k : Int)) ≤ (0 :: sm 0 l).getD k 0 ∧ (0 :: sm 0 l).getD k 0 ≤ 40000000000000 * (k : Int)
  | 0, _ => by simp
  | k + 1, hk => by
    have ih := sm_bd2 h k (by omega)
    have e := sm_get l 0 k (by omega)
    have b := h k (by omega)
    simp only [List.getD_cons_succ]
    rw [e]
    omega
theorem sm_bd80 {xs : List Int} {n : Nat} (hn : xs.length = n) (hn2 : n ≤ 40) (h : OkL xs) : ∀ k, k < n → -4000000000000000000 ≤ (sm 0 (sm 0 xs)).getD k 0 ∧ (sm 0 (sm 0 xs)).getD k 0 ≤ 4000000000000000000 := fun k hk => by
  have h1 : ∀ j, j < (sm 0 xs).length → -40000000000000 ≤ (sm 0 xs).getD j 0 ∧ (sm 0 xs).getD j 0 ≤ 40000000000000 := fun j hj => by
    rw [sm_len] at hj
    have := sm_bd h (j + 1) (by omega)
    rw [List.getD_cons_succ] at this
    omega
  have := sm_bd2 h1 (k + 1) (by rw [sm_len]; omega)
  rw [List.getD_cons_succ] at this
  omega
theorem str_bts (s : ByteArray) : strOfNums (bts s 0) = s := by
  apply ByteArray.ext
  simp [strOfNums, bts, Function.comp_def]

set_option maxRecDepth 100000 in
set_option maxHeartbeats 4000000 in
theorem l2Decode_good (s : ByteArray) (w : World) (hs : s.size ≤ 600) (m : Nat) (xs : List Int) (hm : m ≤ 40) (hr : xs.length = 2 * m) (hgall : gall (bts s 0) = some ((m : Int) :: xs)) (r : Option (List (Int × Int))) (hres : r = ofPairs xs) :
    Calls Tryd.prog 104 #[.string s] w fun e w' => RetS w r e w' := by
  have c1 := l1GetAll_any s w hs
  rw [hgall] at c1
  simp only [RetL, Option.isSome_some, Option.getD_some, List.length_cons, hr] at c1
  have hcg := cat_gall _ _ _ (Nat.le_refl _) (bts_mem s 0) hgall
  have hokx : OkL xs := okL_tail (okL_of_mem hcg.2)
  have hle := inter_ev m xs hr
  have hokev := okL_ev m hr hokx
  have S1 := hide (fun a cap w hs => l2Sums_any a (ev xs) m cap w hle.2.1 hs hm (sm_bd40 hle.2.1 hm hokev.1))
  have S2 := hide (fun a cap w hs => l2Sums_any a (sm 0 (ev xs)) m cap w (by rw [sm_len, hle.2.1]) hs hm (sm_bd80 hle.2.1 hm hokev.1))
  have S3 := hide (fun a cap w hs => l2Sums_any a (od xs) m cap w hle.2.2 hs hm (sm_bd40 hle.2.2 hm hokev.2))
  have henc : GoodS (unS (ev xs) (od xs)) → strOfNums (cat (nums (unS (ev xs) (od xs)))) = s := fun _ => by
    rw [nums_unS hle.2.1 hle.2.2, hle.1, hcg.1, str_bts]
  have HENC := hide henc
  have HLE := hide hle
  obtain ⟨i0, hi, hz0, hz1, hz2⟩ := info_parts info_int
  obtain ⟨i1, hi1, hy0, hy1, hy2⟩ := info_parts info_smpS
  have C1 := hide c1
  have HR := hide hr
  have HRES := hide hres
  have L0 := hide (fun w => l1In_yes (m : Int) 0 40 w (by omega) (by omega))
  clear c1 hr hres hle hokx hokev hcg hgall henc
  go_enter Tryd.func104, Tryd.ntmps104
  go_wp2_with fail
  refine C1.out.mono ?_
  rintro e B0 ⟨v, rfl, ho, hb1⟩
  obtain ⟨g, cap, rfl⟩ := ownsRow_succ' ho
  have hs1 := sl_of_own ho
  have hcell := hs1.at 0 (by simp)
  simp only [List.getD_cons_zero, Nat.add_zero] at hcell
  have HSR := hide hs1
  have HRL : Hid (((m : Int) :: xs).length = 2 * m + 1) := by show _ = _; rw [List.length_cons, HR.out]
  have B1 := hide hb1
  have hq0 : ((2 * (m : Int) + 1) == 0) = false := by simp; omega
  have hq1 : ((2 * (m : Int) + 1) != 1 + 2 * (m : Int)) = false := by simp; omega
  clear ho hs1 hb1
  go_wp2_with fail
  refine (L0.out _).mono ?_
  rintro e w1 ⟨rfl, rfl⟩
  go_wp2
  go_loopw [6, 7, 8] (fun ot ov i wr => ∃ (k j : Nat), k ≤ m ∧ j = 2 * k + 1 ∧ i = .int .i64 j ∧ Two B0.heap.size wr ot ov k ((ev xs).take k) ((od xs).take k) ∧ Below B0.heap.size B0 wr) (fun _ _ i _ => 2 * m + 1 - (intOf i).toNat)
  case atStart => exact ⟨0, 1, Nat.zero_le _, rfl, rfl, two_nil _ _, Below.refl _ _⟩
  case round =>
    obtain ⟨k, j, hk, hj, rfl, htwo, hbel⟩ := hrel
    obtain ⟨oa, ocap, qa, qcap, rfl, rfl, _, _⟩ := htwo.form
    by_cases hlt : k < m
    · obtain ⟨b, off, hab, hc0⟩ := HSR.out j (by rw [HRL.out]; omega)
      cases hab
      obtain ⟨b', off', hbo, hd0⟩ := HSR.out (j + 1) (by rw [HRL.out]; omega)
      cases hbo
      simp only [Nat.zero_add] at hc0 hd0
      have hev := ev_get m xs HR.out k hlt
      have he1 : ((m : Int) :: xs).getD j 0 = (ev xs).getD k 0 := by rw [hj]; exact hev.1.symm
      have he2 : ((m : Int) :: xs).getD (j + 1) 0 = (od xs).getD k 0 := by rw [hj]; exact hev.2.symm
      have hc : wr.cell? ⟨g, j, none⟩ = some (.int .i64 ((ev xs).getD k 0)) := by
        rw [hbel.cell (p := ⟨g, j, none⟩) (blk_lt hc0), hc0, he1]
      have hd : wr.cell? ⟨g, j + 1, none⟩ = some (.int .i64 ((od xs).getD k 0)) := by
        rw [hbel.cell (p := ⟨g, j + 1, none⟩) (blk_lt hd0), hd0, he2]
      have HDB := hide (blk_lt hd0)
      have hltI : (j : Int) < ((2 * m + 1 : Nat) : Int) := by omega
      have hltI1 : (j : Int) + 1 < ((2 * m + 1 : Nat) : Int) := by omega
      have hj0 : (0 : Int) ≤ (j : Int) := by omega
      have hj1 : (0 : Int) ≤ (j : Int) + 1 := by omega
      have hle := inter_ev m xs HR.out
      have ht1 := ltake_snoc (ev xs) k (by rw [hle.2.1]; exact hlt)
      have ht2 := ltake_snoc (od xs) k (by rw [hle.2.2]; exact hlt)
      obtain ⟨x, hx⟩ : ∃ x, x = (ev xs).getD k 0 := ⟨_, rfl⟩
      obtain ⟨y, hy⟩ : ∃ y, y = (od xs).getD k 0 := ⟨_, rfl⟩
      rw [← hx] at hc ht1
      rw [← hy] at hd ht2
      obtain ⟨ts, hts⟩ : ∃ ts, ts = (ev xs).take k := ⟨_, rfl⟩
      obtain ⟨vs, hvs⟩ : ∃ vs, vs = (od xs).take k := ⟨_, rfl⟩
      rw [← hts] at ht1 htwo
      rw [← hvs] at ht2 htwo
      have HT1 := hide ht1
      have HT2 := hide ht2
      have HJ := hide hj
      have hbs := hbel.size
      have HTW := hide htwo
      have HD := hide hd
      have hjm : j ≤ 100 := by omega
      clear hc0 hd0 hx hy ht1 ht2 htwo hts hvs he1 he2 hev hle hj hd
      go_wp2_with (first
        | (at_builtin; refine wpList_append_own_at _ rfl _ _ 32 rfl B0.heap.size 3 i0 (.int .i64 0) 1 8 Tryd.underlying32 hi hz0 hz1 hz2 rfl (by decide) _ _ _ rfl (HTW.out.1.alloc _) ⟨wr.heap.size, 0, none⟩ 1 1 [.int .i64 x] rfl rfl (cell_one_new _ _ _) (by intro u hu; simp at hu; subst hu; rfl) (by unfold maxLen; omega) (by omega) (by simp; omega) ?_)
        | go_in)
      intro v3 w3 hown3 hgrow3 _ hblk3
      have F3 := two_firstS HTW.out hgrow3 hown3 (by simpa using hblk3)
      obtain ⟨hb3, HF3⟩ := F3
      have hd3 : w3.cell? ⟨g, j + 1, none⟩ = some (.int .i64 y) := (hb3.cell (p := ⟨g, j + 1, none⟩) HDB.out).trans HD.out
      have hb3' := hbel.trans hb3
      have hs3 := hb3'.size
      clear hown3 hgrow3 hblk3 hb3
      obtain ⟨g3, c3, rfl⟩ := ownsRow_succ' HF3.out.1
      go_wp2_with (first
        | (at_builtin; refine wpList_append_own_at _ rfl _ _ 32 rfl B0.heap.size 3 i0 (.int .i64 0) 1 8 Tryd.underlying32 hi hz0 hz1 hz2 rfl (by decide) _ _ _ rfl (HF3.out.2.1.alloc _) ⟨w3.heap.size, 0, none⟩ 1 1 [.int .i64 y] rfl rfl (cell_one_new _ _ _) (by intro u hu; simp at hu; subst hu; rfl) (by unfold maxLen; omega) (by omega) (by simp; omega) ?_)
        | go_in)
      intro v4 w4 hown4 hgrow4 _ hblk4
      have F4 := hide (two_second HF3.out hgrow4 hown4 (by simpa using hblk4))
      have hb4 := hb3'.trans (below_app hs3 hgrow4 (fun g hg => (HF3.out.2.1.lt g hg).1))
      clear hown4 hgrow4 hblk4
      go_wp2
      go_roundw
      case rel => exact ⟨k + 1, j + 2, by omega, by rw [HJ.out]; omega, by go_num, by rw [HT1.out, HT2.out]; simpa using F4.out, hb4⟩
      case measure => have := HJ.out; simp [intOf]; omega
    · obtain rfl : m = k := by omega
      have hle := inter_ev m xs HR.out
      have e1 : (ev xs).take m = ev xs := List.take_of_length_le (by rw [hle.2.1]; omega)
      have e2 : (od xs).take m = od xs := List.take_of_length_le (by rw [hle.2.2]; omega)
      rw [e1, e2] at htwo
      have hltI : ¬ (j : Int) < ((2 * m + 1 : Nat) : Int) := by omega
      obtain ⟨ta, tc, va, vc, e3, e4, hst, hsv⟩ := htwo.form
      cases e3
      cases e4
      have HT := hide hst
      have HV := hide hsv
      clear e1 e2 htwo hst hsv hle hj
      go_wp2_with fail
      refine (S1.out _ _ _ HT.out).mono ?_
      rintro e w2 ⟨v2, rfl, ho2, hb2⟩
      obtain ⟨s1, k1, rfl, sl1, _⟩ := own_form ho2
      have V2 := hide (HV.out.below hb2)
      have T2 := hide sl1
      have B2 := hide (hbel.trans (hb2.mono hbel.size))
      clear ho2 sl1 hb2
      go_wp2_with fail
      refine (S2.out _ _ _ T2.out).mono ?_
      rintro e w3 ⟨v3, rfl, ho3, hb3⟩
      obtain ⟨s2, k2, rfl, sl2, _⟩ := own_form ho3
      have V3 := hide (V2.out.below hb3)
      have T3 := hide sl2
      have B3 := hide (B2.out.trans (hb3.mono B2.out.size))
      clear ho3 sl2 hb3
      go_wp2_with fail
      refine (S3.out _ _ _ V3.out).mono ?_
      rintro e w4 ⟨v4, rfl, ho4, hb4⟩
      obtain ⟨s3, k3, rfl, sl3, _⟩ := own_form ho4
      have T4 := hide (T3.out.below hb4)
      have V4 := hide sl3
      have B4 := hide (B3.out.trans (hb4.mono B3.out.size))
      clear ho4 sl3 hb4
      clear HT HV V2 T2 B2 T3 V3 B3 S1 S2 S3 hbel hltI
      obtain ⟨W2, hW2⟩ : ∃ W2, W2 = w4 := ⟨_, rfl⟩
      rw [← hW2] at T4 V4 B4 ⊢
      clear hW2
      go_wp2
      go_loopw [11, 70] (fun o i wr => ∃ k : Nat, k ≤ m ∧ i = .int .i64 k ∧ wr.ownsRow W2.heap.size 50 2 o k (flat2 ((unS (ev xs) (od xs)).take k)) ∧ Below W2.heap.size W2 wr) (fun _ i _ => m - (intOf i).toNat)
      case atStart => exact ⟨0, Nat.zero_le _, rfl, World.ownsRow_nil _ _ _ _, Below.refl _ _⟩
      case round =>
        obtain ⟨k, hk, rfl, hown, hbel2⟩ := hrel
        obtain ⟨oa, ocap, rfl, _, _⟩ := own_formS hown
        by_cases hlt : k < m
        · obtain ⟨bb, bo, rfl, hcx0⟩ := T4.out k (by rw [sm_len, sm_len, HLE.out.2.1]; exact hlt)
          obtain ⟨cb, co, rfl, hcy0⟩ := V4.out k (by rw [sm_len, HLE.out.2.2]; exact hlt)
          have hcx := (hbel2.cell (p := ⟨bb, bo + k, none⟩) (blk_lt hcx0)).trans hcx0
          have hcy := (hbel2.cell (p := ⟨cb, co + k, none⟩) (blk_lt hcy0)).trans hcy0
          have HBB := hide (blk_lt hcx0)
          have HCB := hide (blk_lt hcy0)
          have htk : (unS (ev xs) (od xs)).take (k + 1) = (unS (ev xs) (od xs)).take k ++ [((sm 0 (sm 0 (ev xs))).getD k 0, (sm 0 (od xs)).getD k 0)] := zip_take _ _ k (by rw [sm_len, sm_len, sm_len, HLE.out.2.1, HLE.out.2.2]) (by rw [sm_len, sm_len, HLE.out.2.1]; exact hlt)
          obtain ⟨x, hx⟩ : ∃ x, x = (sm 0 (sm 0 (ev xs))).getD k 0 := ⟨_, rfl⟩
          obtain ⟨y, hy⟩ : ∃ y, y = (sm 0 (od xs)).getD k 0 := ⟨_, rfl⟩
          rw [← hx] at hcx htk
          rw [← hy] at hcy htk
          obtain ⟨ns, hns⟩ : ∃ ns, ns = (unS (ev xs) (od xs)).take k := ⟨_, rfl⟩
          rw [← hns] at htk hown
          have HTK := hide htk
          have HROW := hide hown
          have hltI : (k : Int) < (m : Int) := by omega
          have hk0 : (0 : Int) ≤ (k : Int) := by omega
          have hsz2 := hbel2.size
          clear hcx0 hcy0 hx hy htk hns hown
          go_wp2
          refine wp_region_held_drew (S := (fun wx => wx.cell? ⟨bb, bo + k, none⟩ = some (.int .i64 x) ∧ wx.cell? ⟨cb, co + k, none⟩ = some (.int .i64 y) ∧ Below W2.heap.size W2 wx)) (by kernel_rfl) ⟨hcx, hcy, hbel2.drew⟩ (fun hHeld => ?_)
          refine wpAnyH_take (i := 0) (v := ?v1) rfl (by kernel_rfl) (by kernel_rfl) (by kernel_rfl) (fun _ _ _ h => h) (Or.inl ⟨by rfl, ?y1⟩) (by assumption) ?r1
          case y1 => (intro w hSw; (try dsimp only at hSw); go_simp; try (with_reducible rfl))
          simp only [List.getElem_toArray, List.getElem_cons_zero, Act.put, List.setIfInBounds_toArray, List.set_cons_zero, List.set_cons_succ]
          refine wpAnyH_take (i := 1) (v := ?v2) rfl (by kernel_rfl) (by kernel_rfl) (by kernel_rfl) (fun _ _ _ h => h) (Or.inl ⟨by rfl, ?y2⟩) (by assumption) ?r2
          case y2 => (intro w hSw; (try dsimp only at hSw); go_simp; try (with_reducible rfl))
          simp only [List.getElem_toArray, List.getElem_cons_succ, List.getElem_cons_zero, Act.put, List.setIfInBounds_toArray, List.set_cons_zero, List.set_cons_succ]
          refine wpAnyH_take (i := 2) (v := ?v3) rfl (by kernel_rfl) (by kernel_rfl) (by kernel_rfl) (fun _ _ _ h => h) (Or.inl ⟨by rfl, ?y3⟩) (by assumption) ?r3
          case y3 => (intro w hSw; (try dsimp only at hSw); go_simp; try (with_reducible rfl))
          simp only [List.getElem_toArray, List.getElem_cons_succ, List.getElem_cons_zero, Act.put, List.setIfInBounds_toArray, List.set_cons_zero, List.set_cons_succ]
          refine wpAnyH_take (i := 3) (v := ?v4) rfl (by kernel_rfl) (by kernel_rfl) (by kernel_rfl) (fun _ _ _ h => h) (Or.inl ⟨by rfl, ?y4⟩) (by assumption) ?r4
          case y4 => (intro w hSw; (try dsimp only at hSw); go_simp; try (with_reducible rfl))
          simp only [List.getElem_toArray, List.getElem_cons_succ, List.getElem_cons_zero, Act.put, List.setIfInBounds_toArray, List.set_cons_zero, List.set_cons_succ]
          refine wpAnyH_take (i := 4) (v := ?v5) rfl (by kernel_rfl) (by kernel_rfl) (by kernel_rfl) (fun _ _ _ h => h) (Or.inl ⟨by rfl, ?y5⟩) (by assumption) ?r5
          case y5 => (intro w hSw; (try dsimp only at hSw); go_simp; try (with_reducible rfl))
          simp only [List.getElem_toArray, List.getElem_cons_succ, List.getElem_cons_zero, Act.put, List.setIfInBounds_toArray, List.set_cons_zero, List.set_cons_succ]
          refine wpAnyH_take (i := 5) (v := ?v6) rfl (by kernel_rfl) (by kernel_rfl) (by kernel_rfl) (fun _ _ _ h => h) (Or.inl ⟨by rfl, ?y6⟩) (by assumption) ?r6
          case y6 => (intro w hSw; (try dsimp only at hSw); go_simp; try (with_reducible rfl))
          simp only [List.getElem_toArray, List.getElem_cons_succ, List.getElem_cons_zero, Act.put, List.setIfInBounds_toArray, List.set_cons_zero, List.set_cons_succ]
          refine wpAnyH_take (i := 6) (v := ?v7) rfl (by kernel_rfl) (by kernel_rfl) (by kernel_rfl) (fun _ _ _ h => h) (Or.inl ⟨by rfl, ?y7⟩) (by assumption) ?r7
          case y7 => (intro w hSw; (try dsimp only at hSw); go_simp; try (with_reducible rfl))
          simp only [List.getElem_toArray, List.getElem_cons_succ, List.getElem_cons_zero, Act.put, List.setIfInBounds_toArray, List.set_cons_zero, List.set_cons_succ]
          refine wpAnyH_take (i := 7) (v := ?v8) rfl (by kernel_rfl) (by kernel_rfl) (by kernel_rfl) (fun _ _ _ h => h) (Or.inl ⟨by rfl, ?y8⟩) (by assumption) ?r8
          case y8 => (intro w hSw; (try dsimp only at hSw); go_simp; try (with_reducible rfl))
          simp only [List.getElem_toArray, List.getElem_cons_succ, List.getElem_cons_zero, Act.put, List.setIfInBounds_toArray, List.set_cons_zero, List.set_cons_succ]
          refine wpAnyH_take (i := 8) (v := ?v9) rfl (by kernel_rfl) (by kernel_rfl) (by kernel_rfl) (fun _ _ _ h => h) (Or.inl ⟨by rfl, ?y9⟩) (by assumption) ?r9
          case y9 => (intro w hSw; (try dsimp only at hSw); go_simp; try (with_reducible rfl))
          simp only [List.getElem_toArray, List.getElem_cons_succ, List.getElem_cons_zero, Act.put, List.setIfInBounds_toArray, List.set_cons_zero, List.set_cons_succ]
          refine wpAnyH_take (i := 9) (v := ?v10) rfl (by kernel_rfl) (by kernel_rfl) (by kernel_rfl) (fun _ _ _ h => h) (Or.inl ⟨by rfl, ?y10⟩) (by assumption) ?r10
          case y10 => (intro w hSw; (try dsimp only at hSw); go_simp; try (with_reducible rfl))
          simp only [List.getElem_toArray, List.getElem_cons_succ, List.getElem_cons_zero, Act.put, List.setIfInBounds_toArray, List.set_cons_zero, List.set_cons_succ]
          refine wpAnyH_ready (rs := [10]) (by kernel_rfl) (by simp) ?_
          refine AllReadyH.cons rfl (fun K hK => ?_) AllReadyH.nil
          simp only [List.getElem_toArray, List.getElem_cons_succ, List.getElem_cons_zero]
          go_simp
          refine hK.out _ _ ?_ (fun hHeld => ?_)
          · exact keepA hHeld (show Below W2.heap.size wr.drew _ from (Below.refl _ wr.drew).alloc hbel2.size (.cells #[.int .i64 x, .int .i64 y] 50)) HBB.out HCB.out
          clear hK K
          try simp only [Act.put, List.setIfInBounds_toArray, List.set_cons_zero, List.set_cons_succ]
          refine wpAnyH_ready (rs := [11]) (by kernel_rfl) (by simp) ?_
          refine AllReadyH.cons rfl (fun K hK => ?_) AllReadyH.nil
          simp only [List.getElem_toArray, List.getElem_cons_succ, List.getElem_cons_zero]
          rw [if_pos (by rfl)]
          refine wp_append_lies _ (.tmp 73) (.tmp 83) 41 rfl W2.heap.size 50 i1 (.agg #[.int .i64 0, .int .i64 0]) 2 16 Tryd.underlying41 hi1 hy0 hy1 hy2 rfl (by decide) (.slice oa k ocap) k (flat2 ns) rfl (HROW.out.alloc (.cells #[.int .i64 x, .int .i64 y] 50)) ⟨wr.heap.size, 0, none⟩ 1 1 [.int .i64 x, .int .i64 y] rfl rfl ?_ ?_ (by decide) (by unfold maxLen; omega) (by omega) (Nat.le_trans hsz2 (by show wr.heap.size ≤ (wr.alloc _).heap.size; simp)) _ rfl ?_
          · exact fun j u h => cell_two_newS wr (.int .i64 x) (.int .i64 y) 50 j u h
          · intro u hu
            simp at hu
            rcases hu with rfl | rfl <;> rfl
          intro g4 c4 w6 hown6 hgrow6 _ _
          have hb6 : Below W2.heap.size (wr.alloc (.cells #[.int .i64 x, .int .i64 y] 50)).drew w6 := (Below.refl _ _).grown hgrow6 (Nat.le_trans hsz2 (by show wr.heap.size ≤ (wr.alloc _).heap.size; simp)) (fun g hg => (HROW.out.lt g hg).1)
          refine hK.out _ _ ?_ (fun hHeld => ?_)
          · exact keepA hHeld hb6 HBB.out HCB.out
          clear hK K hgrow6 hb6
          try simp only [Act.put, List.setIfInBounds_toArray, List.set_cons_zero, List.set_cons_succ]
          refine wpAnyH_take (i := 12) (v := ?v11) rfl (by kernel_rfl) (by kernel_rfl) (by kernel_rfl) (fun _ _ _ h => h) (Or.inl ⟨by rfl, ?y11⟩) (by assumption) ?r11
          case y11 => (intro w hSw; (try dsimp only at hSw); go_simp; try (with_reducible rfl))
          simp only [List.getElem_toArray, List.getElem_cons_succ, List.getElem_cons_zero, Act.put, List.setIfInBounds_toArray, List.set_cons_zero, List.set_cons_succ]
          refine wpAnyH_done (by kernel_rfl) ?_ _
          have HO6 : Hid (w6.ownsRow W2.heap.size 50 2 (.slice (some ⟨g4, 0, none⟩) (k + 1) c4) (k + 1) (flat2 ((unS (ev xs) (od xs)).take (k + 1)))) := by show World.ownsRow _ _ _ _ _ _ _; rw [HTK.out, flat2_append]; simpa [flat2] using hown6
          have HB6 := hide hHeld.2.2
          clear hown6 hHeld
          go_wp2
          go_roundw
          case rel => exact ⟨k + 1, by omega, by go_num, HO6.out, HB6.out⟩
          case measure => simp [intOf]; omega
        · obtain rfl : m = k := by omega
          have e1 : (unS (ev xs) (od xs)).take m = unS (ev xs) (od xs) := List.take_of_length_le (by rw [unS_len (by rw [HLE.out.2.1, HLE.out.2.2]), HLE.out.2.1]; omega)
          rw [e1] at hown
          obtain ⟨oa', ocap', eo, hsl, hlen⟩ := own_formS hown
          cases eo
          have hltI : ¬ (m : Int) < (m : Int) := by omega
          have HO := hide (own_baseS hown B4.out.size)
          have HSL := hide hsl
          have BW := hide (B4.out.trans (hbel2.mono B4.out.size))
          have HLN := hide hlen
          clear e1 hown hsl hlen
          by_cases hg : GoodS (unS (ev xs) (od xs))
          · have C9 := hide (specGood_any oa (unS (ev xs) (od xs)) m ocap wr HLN.out HSL.out (by omega) true (by simp [hg]))
            have c10 := fun w hs => l2Encode_any oa (unS (ev xs) (od xs)) m ocap w HLN.out hs hg
            simp only [HENC.out hg] at c10
            have C10 := hide c10
            have HRN : Hid (r = some (unS (ev xs) (od xs))) := by rw [show r = _ from HRES.out]; exact ofPairs_some hg
            clear hg c10
            go_wp2_with fail
            refine C9.out.mono ?_
            rintro e w9 ⟨rfl, hb9⟩
            have HO9 := hide (own_belowS HO.out hb9)
            have HS9 := hide (HSL.out.below hb9)
            have B9 := hide (BW.out.trans (hb9.mono BW.out.size))
            clear hb9
            go_wp2_with fail
            refine (C10.out _ HS9.out).mono ?_
            rintro e w10 ⟨rfl, hb10⟩
            have HO10 := hide (own_belowS HO9.out hb10)
            have B10 := hide (B9.out.trans (hb10.mono B9.out.size))
            clear hb10
            go_wp2
            go_ret2
            exact ⟨_, by rw [HRN.out]; rfl, by rw [HRN.out]; simp only [Option.getD_some]; rw [HLN.out]; exact own_baseS HO10.out B1.out.size, B1.out.trans (B10.out.mono B1.out.size)⟩
          · have C9 := hide (specGood_any oa (unS (ev xs) (od xs)) m ocap wr HLN.out HSL.out (by omega) false (by simp [hg]))
            have HRN : Hid (r = none) := by rw [show r = _ from HRES.out]; exact ofPairs_none hg
            clear hg
            go_wp2_with fail
            refine C9.out.mono ?_
            rintro e w9 ⟨rfl, hb9⟩
            have B9 := hide (BW.out.trans (hb9.mono BW.out.size))
            clear hb9
            go_wp2
            go_ret2
            exact ⟨_, by rw [HRN.out]; rfl, by rw [HRN.out]; exact World.ownsRow_nil _ _ _ _, B1.out.trans (B9.out.mono B1.out.size)⟩

theorem dcRes_all {t : List Int} {c : Int} {r : List Int} (h : gall t = some (c :: r)) : dcRes t = ofNums (c :: r) := by unfold dcRes; rw [h]; rfl
theorem ofNums_big {c : Int} {r : List Int} (h : ¬ (0 ≤ c ∧ c ≤ 40)) : ofNums (c :: r) = none := by
  simp only [ofNums]
  rw [if_neg]
  intro hh
  have := hh.1
  have := hh.2.1
  omega

set_option maxRecDepth 100000 in
set_option maxHeartbeats 1000000 in
theorem l2Decode_any (s : ByteArray) (w : World) (hs : s.size ≤ 600) :
    Calls Tryd.prog 104 #[.string s] w fun e w' => RetS w (dcRes (bts s 0)) e w' := by
  have c1 := l1GetAll_any s w hs
  cases hge : gall (bts s 0) with
  | none =>
    have er : dcRes (bts s 0) = none := by unfold dcRes; rw [hge]; rfl
    rw [er]
    rw [hge] at c1
    simp only [RetL, Option.isSome_none, Option.getD_none] at c1
    have C1 := hide c1
    clear c1 hge er
    go_enter Tryd.func104, Tryd.ntmps104
    go_wp2_with fail
    refine C1.out.mono ?_
    rintro e w1 ⟨v, rfl, ho, hb1⟩
    obtain ⟨va, vc, rfl, _, _⟩ := own_form ho
    clear ho
    go_wp2
    go_ret2
    exact ⟨_, rfl, World.ownsRow_nil _ _ _ _, hb1⟩
  | some ys =>
    cases ys with
    | nil =>
      have er : dcRes (bts s 0) = none := by unfold dcRes; rw [hge]; rfl
      rw [er]
      rw [hge] at c1
      simp only [RetL, Option.isSome_some, Option.getD_some] at c1
      have C1 := hide c1
      clear c1 hge er
      go_enter Tryd.func104, Tryd.ntmps104
      go_wp2_with fail
      refine C1.out.mono ?_
      rintro e w1 ⟨v, rfl, ho, hb1⟩
      obtain ⟨va, vc, rfl, _, _⟩ := own_form ho
      clear ho
      go_wp2
      go_ret2
      exact ⟨_, rfl, World.ownsRow_nil _ _ _ _, hb1⟩
    | cons c r =>
      rw [dcRes_all hge]
      have hcg := cat_gall _ _ _ (Nat.le_refl _) (bts_mem s 0) hge
      have hlr : r.length + 1 ≤ 600 := by
        have h1 := cat_ge (c :: r)
        rw [hcg.1, bts_len] at h1
        simp only [List.length_cons] at h1
        omega
      by_cases hc : 0 ≤ c ∧ c ≤ 40
      · by_cases heq : (r.length : Int) = 2 * c
        · obtain ⟨m, hm⟩ : ∃ m : Nat, c = (m : Int) := ⟨c.toNat, by omega⟩
          subst hm
          rw [ofNums_eq heq hc.2]
          exact l2Decode_good s w hs m r (by omega) (by omega) hge _ rfl
        · rw [ofNums_ne heq]
          rw [hge] at c1
          simp only [RetL, Option.isSome_some, Option.getD_some, List.length_cons] at c1
          have C1 := hide c1
          have L0 := hide (fun w => l1In_yes c 0 40 w hc.1 hc.2)
          have hN : (((r.length : Int) + 1) != 1 + 2 * c) = true := by simp; omega
          have hN0 : (((r.length : Int) + 1) == 0) = false := by simp; omega
          obtain ⟨hc1, hc2⟩ := hc
          clear c1 hge heq hcg
          go_enter Tryd.func104, Tryd.ntmps104
          go_wp2_with fail
          refine C1.out.mono ?_
          rintro e w1 ⟨v, rfl, ho, hb1⟩
          obtain ⟨g, cap, rfl⟩ := ownsRow_succ' ho
          have hs1 := sl_of_own ho
          have hcell := hs1.at 0 (by simp)
          simp only [List.getD_cons_zero, Nat.add_zero] at hcell
          clear ho hs1
          go_wp2_with fail
          refine (L0.out _).mono ?_
          rintro e w2 ⟨rfl, rfl⟩
          go_wp2
          go_ret2
          exact ⟨_, rfl, World.ownsRow_nil _ _ _ _, hb1⟩
      · rw [ofNums_big hc]
        rw [hge] at c1
        simp only [RetL, Option.isSome_some, Option.getD_some, List.length_cons] at c1
        have C1 := hide c1
        have L0 := hide (fun w => l1In_no c 0 40 w hc)
        have hN0 : (((r.length : Int) + 1) == 0) = false := by simp; omega
        clear c1 hge hcg hc
        go_enter Tryd.func104, Tryd.ntmps104
        go_wp2_with fail
        refine C1.out.mono ?_
        rintro e w1 ⟨v, rfl, ho, hb1⟩
        obtain ⟨g, cap, rfl⟩ := ownsRow_succ' ho
        have hs1 := sl_of_own ho
        have hcell := hs1.at 0 (by simp)
        simp only [List.getD_cons_zero, Nat.add_zero] at hcell
        clear ho hs1
        go_wp2_with fail
        refine (L0.out _).mono ?_
        rintro e w2 ⟨rfl, rfl⟩
        go_wp2
        go_ret2
        exact ⟨_, rfl, World.ownsRow_nil _ _ _ _, hb1⟩

set_option maxRecDepth 100000 in
set_option maxHeartbeats 400000 in
theorem specDecode_any (s : ByteArray) (w : World) (hs : s.size ≤ 1048576) :
    Calls Tryd.prog 44 #[.string s] w fun e w' => RetS w (dcRes (bts s 0)) e w' := by
  by_cases h600 : 600 < (s.size : Int)
  · rw [dcRes_long (bts_mem s 0) (by rw [bts_len]; omega)]
    go_enter Tryd.func44, Tryd.ntmps44
    go_wp2
    go_ret2
    exact ⟨_, rfl, World.ownsRow_nil _ _ _ _, Below.refl _ _⟩
  · have c1 := l2Decode_any s w (by omega)
    obtain ⟨R, hR⟩ : ∃ R, R = dcRes (bts s 0) := ⟨_, rfl⟩
    rw [← hR] at c1 ⊢
    have C1 := hide c1
    clear c1 hR
    go_enter Tryd.func44, Tryd.ntmps44
    go_wp2_with fail
    refine C1.out.mono ?_
    rintro e w1 ⟨v, rfl, ho, hb1⟩
    obtain ⟨va, vc, rfl, _, _⟩ := own_formS ho
    have HO := hide ho
    clear ho
    go_wp2
    go_ret2
    exact ⟨_, rfl, HO.out, hb1⟩
end Go.Proofs.YtapffbbmofhpoaaDoor.L1

namespace Go.Proofs.YtapffbbmofhpoaaDoor.L1
open Go.RowKit
set_option linter.unusedVariables false

/-- Samples from a time on, up to another one. -/
def rg (fr til : Int) (l : List (Int × Int)) : List (Int × Int) := l.filter fun p => decide (fr ≤ p.1 ∧ p.1 < til)
theorem rg_take (fr til : Int) (l : List (Int × Int)) (k : Nat) (h : k < l.length) : rg fr til (l.take (k + 1)) = rg fr til (l.take k) ++ (if fr ≤ (l.getD k (0, 0)).1 ∧ (l.getD k (0, 0)).1 < til then [l.getD k (0, 0)] else []) := by
  rw [List.take_succ_eq_append_getElem h]
  have e : l.getD k (0, 0) = l[k] := by simp [List.getD, List.getElem?_eq_getElem h]
  rw [e]
  simp only [rg, List.filter_append]
  congr 1
  by_cases hc : fr ≤ l[k].1 ∧ l[k].1 < til
  · simp [hc]
  · rw [if_neg hc]
    simp only [List.filter_cons, List.filter_nil]
    rw [if_neg (by simpa using hc)]
theorem rg_len (fr til : Int) (l : List (Int × Int)) : (rg fr til l).length ≤ l.length := List.length_filter_le _ _

set_option maxRecDepth 100000 in
set_option maxHeartbeats 1000000 in
theorem rangeOf_any (s : ByteArray) (fr til : Int) (w : World) (hs : s.size ≤ 1048576) (ht : Tab w) (R : Option (List (Int × Int))) (hR : R = (dcRes (bts s 0)).map (rg fr til)) :
    Calls Tryd.prog 51 #[.string s, .int .i64 fr, .int .i64 til] w fun e w' => RetS w R e w' := by
  have c1 := decodeChunk_any s w hs ht
  have hlen := dcRes_len (t := bts s 0) (bts_mem s 0)
  cases hd : dcRes (bts s 0) with
  | none =>
    rw [hd] at c1 hR
    simp only [RetS, Option.isSome_none, Option.getD_none, Option.map_none] at c1 hR
    subst hR
    have C1 := hide c1
    clear c1 hd hlen
    go_enter Tryd.func51, Tryd.ntmps51
    go_wp2_with fail
    refine C1.out.mono ?_
    rintro e w1 ⟨v, rfl, ho, hb1⟩
    obtain ⟨va, vc, rfl, _, _⟩ := own_formS ho
    clear ho
    go_wp2
    go_ret2
    exact ⟨_, rfl, World.ownsRow_nil _ _ _ _, hb1⟩
  | some l =>
    rw [hd] at c1 hR hlen
    simp only [RetS, Option.isSome_some, Option.getD_some, Option.map_some] at c1 hR hlen
    obtain ⟨n, hn⟩ : ∃ n, n = l.length := ⟨_, rfl⟩
    rw [← hn] at c1 hlen
    obtain ⟨i1, hi1, hy0, hy1, hy2⟩ := info_parts info_smpS
    have C1 := hide c1
    have HN := hide hn.symm
    have HRR := hide hR
    clear c1 hd hR hn
    go_enter Tryd.func51, Tryd.ntmps51
    go_wp2_with fail
    refine C1.out.mono ?_
    rintro e W1 ⟨v, rfl, ho, hb1⟩
    obtain ⟨va, vc, rfl, hsl, _⟩ := own_formS ho
    have HS := hide hsl
    have B1 := hide hb1
    clear ho hsl hb1 C1
    go_wp2
    go_loopw [10, 22] (fun o i wr => ∃ (k q : Nat), k ≤ n ∧ q ≤ k ∧ q = (rg fr til (l.take k)).length ∧ i = .int .i64 k ∧ wr.ownsRow W1.heap.size 50 2 o q (flat2 (rg fr til (l.take k))) ∧ Below W1.heap.size W1 wr) (fun _ i _ => n - (intOf i).toNat)
    case atStart => exact ⟨0, 0, Nat.zero_le _, Nat.zero_le _, rfl, rfl, World.ownsRow_nil _ _ _ _, Below.refl _ _⟩
    case round =>
      obtain ⟨k, q, hk, hqk, hq, rfl, hown, hbel⟩ := hrel
      obtain ⟨oa, ocap, rfl, _, _⟩ := own_formS hown
      by_cases hlt : k < n
      · obtain ⟨b, off, rfl, hc0, hd0⟩ := HS.out k (by rw [HN.out]; exact hlt)
        have hc := (hbel.cell (p := ⟨b, off + k * 2, none⟩) (blk_lt hc0)).trans hc0
        have hd := (hbel.cell (p := ⟨b, off + k * 2 + 1, none⟩) (blk_lt hd0)).trans hd0
        have htk := rg_take fr til l k (by rw [HN.out]; exact hlt)
        have hltI : (k : Int) < (n : Int) := by omega
        obtain ⟨x, hx⟩ : ∃ x, x = (l.getD k (0, 0)).1 := ⟨_, rfl⟩
        obtain ⟨y, hy⟩ : ∃ y, y = (l.getD k (0, 0)).2 := ⟨_, rfl⟩
        rw [← hx] at hc
        rw [← hy] at hd
        have hxy : l.getD k (0, 0) = (x, y) := by rw [hx, hy]
        rw [hxy] at htk
        obtain ⟨ns, hns⟩ : ∃ ns, ns = rg fr til (l.take k) := ⟨_, rfl⟩
        rw [← hns] at htk hown hq
        have HTK := hide htk
        have HQ := hide hq
        have HROW := hide hown
        have hsz := hbel.size
        clear hc0 hd0 hx hy hxy htk hns hown hq
        by_cases hin : fr ≤ x ∧ x < til
        · have HIN := hide hin
          obtain ⟨hin1, hin2⟩ := hin
          go_wp2_with (first
            | (at_builtin; refine wpList_append_own _ rfl _ _ 41 rfl W1.heap.size 50 i1 (.agg #[.int .i64 0, .int .i64 0]) 2 16 Tryd.underlying41 hi1 hy0 hy1 hy2 rfl (by decide) _ _ _ rfl ((HROW.out.alloc _).alloc _) ⟨wr.heap.size + 1, 0, none⟩ 1 1 [.int .i64 x, .int .i64 y] rfl rfl (fun j u h => by have := cell_two_newS (wr.alloc (.cells #[.int .i64 x, .int .i64 y] 50)) (.int .i64 x) (.int .i64 y) 50 j u h; rw [World.size_alloc] at this; exact this) (by intro u hu; simp at hu; rcases hu with rfl | rfl <;> rfl) (by unfold maxLen; omega) (by omega) (by simp; omega) ?_)
            | go_in)
          intro v6 w6 hown6 hgrow6 _
          have hb6 : Below W1.heap.size wr w6 := (((Below.refl _ wr).alloc hsz _).alloc (by simp; omega) _).grown hgrow6 (by simp; omega) (fun g hg => (HROW.out.lt g hg).1)
          have B6 := hide (hbel.trans hb6)
          have HO6 : Hid (w6.ownsRow W1.heap.size 50 2 v6 (q + 1) (flat2 (rg fr til (l.take (k + 1))))) := by show World.ownsRow _ _ _ _ _ _ _; rw [HTK.out, if_pos HIN.out, flat2_append]; simpa [flat2] using hown6
          clear hown6 hgrow6 hb6
          go_wp2
          go_roundw
          case rel => exact ⟨k + 1, q + 1, by omega, by omega, by rw [HTK.out, if_pos HIN.out, List.length_append, ← HQ.out]; rfl, by go_num, HO6.out, B6.out⟩
          case measure => simp [intOf]; omega
        · have HIN := hide hin
          have B6 := hide ((hbel.alloc hsz (.cells #[.int .i64 x, .int .i64 y] 50)))
          have HO6 : Hid ((wr.alloc (.cells #[.int .i64 x, .int .i64 y] 50)).ownsRow W1.heap.size 50 2 (.slice oa q ocap) q (flat2 (rg fr til (l.take (k + 1))))) := by show World.ownsRow _ _ _ _ _ _ _; rw [HTK.out, if_neg HIN.out, List.append_nil]; exact HROW.out.alloc _
          by_cases hin1 : fr ≤ x
          · have hin2 : ¬ x < til := fun h => hin ⟨hin1, h⟩
            clear hin
            go_wp2
            go_roundw
            case rel => exact ⟨k + 1, q, by omega, by omega, by rw [HTK.out, if_neg HIN.out, List.append_nil, ← HQ.out], by go_num, HO6.out, B6.out⟩
            case measure => simp [intOf]; omega
          · clear hin
            go_wp2
            go_roundw
            case rel => exact ⟨k + 1, q, by omega, by omega, by rw [HTK.out, if_neg HIN.out, List.append_nil, ← HQ.out], by go_num, HO6.out, B6.out⟩
            case measure => simp [intOf]; omega
      · obtain rfl : n = k := by omega
        have e1 : l.take n = l := List.take_of_length_le (by rw [HN.out]; omega)
        rw [e1] at hown hq
        have hltI : ¬ (n : Int) < (n : Int) := by omega
        have HO := hide (own_baseS hown B1.out.size)
        have HQ := hide hq
        clear e1 hown hq
        go_wp2
        go_ret2
        exact ⟨_, by rw [HRR.out]; rfl, by rw [HRR.out]; simp only [Option.getD_some]; rw [← HQ.out]; exact HO.out, B1.out.trans (hbel.mono B1.out.size)⟩

set_option maxRecDepth 100000 in
set_option maxHeartbeats 1000000 in
theorem specRange_any (s : ByteArray) (fr til : Int) (w : World) (hs : s.size ≤ 1048576) (R : Option (List (Int × Int))) (hR : R = (dcRes (bts s 0)).map (rg fr til)) :
    Calls Tryd.prog 52 #[.string s, .int .i64 fr, .int .i64 til] w fun e w' => RetS w R e w' := by
  have c1 := specDecode_any s w hs
  have hlen := dcRes_len (t := bts s 0) (bts_mem s 0)
  cases hd : dcRes (bts s 0) with
  | none =>
    rw [hd] at c1 hR
    simp only [RetS, Option.isSome_none, Option.getD_none, Option.map_none] at c1 hR
    subst hR
    have C1 := hide c1
    clear c1 hd hlen
    go_enter Tryd.func52, Tryd.ntmps52
    go_wp2_with fail
    refine C1.out.mono ?_
    rintro e w1 ⟨v, rfl, ho, hb1⟩
    obtain ⟨va, vc, rfl, _, _⟩ := own_formS ho
    clear ho
    go_wp2
    go_ret2
    exact ⟨_, rfl, World.ownsRow_nil _ _ _ _, hb1⟩
  | some l =>
    rw [hd] at c1 hR hlen
    simp only [RetS, Option.isSome_some, Option.getD_some, Option.map_some] at c1 hR hlen
    obtain ⟨n, hn⟩ : ∃ n, n = l.length := ⟨_, rfl⟩
    rw [← hn] at c1 hlen
    obtain ⟨i1, hi1, hy0, hy1, hy2⟩ := info_parts info_smpS
    have C1 := hide c1
    have HN := hide hn.symm
    have HRR := hide hR
    clear c1 hd hR hn
    go_enter Tryd.func52, Tryd.ntmps52
    go_wp2_with fail
    refine C1.out.mono ?_
    rintro e W1 ⟨v, rfl, ho, hb1⟩
    obtain ⟨va, vc, rfl, hsl, _⟩ := own_formS ho
    have HS := hide hsl
    have B1 := hide hb1
    clear ho hsl hb1 C1
    go_wp2
    go_loopw [10, 22] (fun o i wr => ∃ (k q : Nat), k ≤ n ∧ q ≤ k ∧ q = (rg fr til (l.take k)).length ∧ i = .int .i64 k ∧ wr.ownsRow W1.heap.size 50 2 o q (flat2 (rg fr til (l.take k))) ∧ Below W1.heap.size W1 wr) (fun _ i _ => n - (intOf i).toNat)
    case atStart => exact ⟨0, 0, Nat.zero_le _, Nat.zero_le _, rfl, rfl, World.ownsRow_nil _ _ _ _, Below.refl _ _⟩
    case round =>
      obtain ⟨k, q, hk, hqk, hq, rfl, hown, hbel⟩ := hrel
      obtain ⟨oa, ocap, rfl, _, _⟩ := own_formS hown
      by_cases hlt : k < n
      · obtain ⟨b, off, rfl, hc0, hd0⟩ := HS.out k (by rw [HN.out]; exact hlt)
        have hc := (hbel.cell (p := ⟨b, off + k * 2, none⟩) (blk_lt hc0)).trans hc0
        have hd := (hbel.cell (p := ⟨b, off + k * 2 + 1, none⟩) (blk_lt hd0)).trans hd0
        have htk := rg_take fr til l k (by rw [HN.out]; exact hlt)
        have hltI : (k : Int) < (n : Int) := by omega
        obtain ⟨x, hx⟩ : ∃ x, x = (l.getD k (0, 0)).1 := ⟨_, rfl⟩
        obtain ⟨y, hy⟩ : ∃ y, y = (l.getD k (0, 0)).2 := ⟨_, rfl⟩
        rw [← hx] at hc
        rw [← hy] at hd
        have hxy : l.getD k (0, 0) = (x, y) := by rw [hx, hy]
        rw [hxy] at htk
        obtain ⟨ns, hns⟩ : ∃ ns, ns = rg fr til (l.take k) := ⟨_, rfl⟩
        rw [← hns] at htk hown hq
        have HTK := hide htk
        have HQ := hide hq
        have HROW := hide hown
        have hsz := hbel.size
        clear hc0 hd0 hx hy hxy htk hns hown hq
        by_cases hin : fr ≤ x ∧ x < til
        · have HIN := hide hin
          obtain ⟨hin1, hin2⟩ := hin
          go_wp2_with (first
            | (at_builtin; refine wpList_append_own _ rfl _ _ 41 rfl W1.heap.size 50 i1 (.agg #[.int .i64 0, .int .i64 0]) 2 16 Tryd.underlying41 hi1 hy0 hy1 hy2 rfl (by decide) _ _ _ rfl ((HROW.out.alloc _).alloc _) ⟨wr.heap.size + 1, 0, none⟩ 1 1 [.int .i64 x, .int .i64 y] rfl rfl (fun j u h => by have := cell_two_newS (wr.alloc (.cells #[.int .i64 x, .int .i64 y] 50)) (.int .i64 x) (.int .i64 y) 50 j u h; rw [World.size_alloc] at this; exact this) (by intro u hu; simp at hu; rcases hu with rfl | rfl <;> rfl) (by unfold maxLen; omega) (by omega) (by simp; omega) ?_)
            | go_in)
          intro v6 w6 hown6 hgrow6 _
          have hb6 : Below W1.heap.size wr w6 := (((Below.refl _ wr).alloc hsz _).alloc (by simp; omega) _).grown hgrow6 (by simp; omega) (fun g hg => (HROW.out.lt g hg).1)
          have B6 := hide (hbel.trans hb6)
          have HO6 : Hid (w6.ownsRow W1.heap.size 50 2 v6 (q + 1) (flat2 (rg fr til (l.take (k + 1))))) := by show World.ownsRow _ _ _ _ _ _ _; rw [HTK.out, if_pos HIN.out, flat2_append]; simpa [flat2] using hown6
          clear hown6 hgrow6 hb6
          go_wp2
          go_roundw
          case rel => exact ⟨k + 1, q + 1, by omega, by omega, by rw [HTK.out, if_pos HIN.out, List.length_append, ← HQ.out]; rfl, by go_num, HO6.out, B6.out⟩
          case measure => simp [intOf]; omega
        · have HIN := hide hin
          have B6 := hide ((hbel.alloc hsz (.cells #[.int .i64 x, .int .i64 y] 50)))
          have HO6 : Hid ((wr.alloc (.cells #[.int .i64 x, .int .i64 y] 50)).ownsRow W1.heap.size 50 2 (.slice oa q ocap) q (flat2 (rg fr til (l.take (k + 1))))) := by show World.ownsRow _ _ _ _ _ _ _; rw [HTK.out, if_neg HIN.out, List.append_nil]; exact HROW.out.alloc _
          by_cases hin1 : fr ≤ x
          · have hin2 : ¬ x < til := fun h => hin ⟨hin1, h⟩
            clear hin
            go_wp2
            go_roundw
            case rel => exact ⟨k + 1, q, by omega, by omega, by rw [HTK.out, if_neg HIN.out, List.append_nil, ← HQ.out], by go_num, HO6.out, B6.out⟩
            case measure => simp [intOf]; omega
          · clear hin
            go_wp2
            go_roundw
            case rel => exact ⟨k + 1, q, by omega, by omega, by rw [HTK.out, if_neg HIN.out, List.append_nil, ← HQ.out], by go_num, HO6.out, B6.out⟩
            case measure => simp [intOf]; omega
      · obtain rfl : n = k := by omega
        have e1 : l.take n = l := List.take_of_length_le (by rw [HN.out]; omega)
        rw [e1] at hown hq
        have hltI : ¬ (n : Int) < (n : Int) := by omega
        have HO := hide (own_baseS hown B1.out.size)
        have HQ := hide hq
        clear e1 hown hq
        go_wp2
        go_ret2
        exact ⟨_, by rw [HRR.out]; rfl, by rw [HRR.out]; simp only [Option.getD_some]; rw [← HQ.out]; exact HO.out, B1.out.trans (hbel.mono B1.out.size)⟩
end Go.Proofs.YtapffbbmofhpoaaDoor.L1

namespace Go.Proofs.YtapffbbmofhpoaaDoor.L1
open Go.RowKit
set_option linter.unusedVariables false

/-- A list of one number, made as it stands. -/
theorem one_row (w : World) (x : Int) : (w.alloc (.cells #[.int .i64 x] 3)).ownsRow w.heap.size 3 1 (.slice (some ⟨w.heap.size, 0, none⟩) 1 1) 1 ([x].map (Value.int .i64)) :=
  ⟨rfl, .inr ⟨w.heap.size, 1, #[.int .i64 x], rfl, Nat.le_refl _, World.alloc_heap_new w _, Nat.le_refl _, by unfold maxLen; omega, rfl, rfl⟩⟩

set_option maxRecDepth 100000 in
set_option maxHeartbeats 400000 in
theorem chunkNumbers_no (a : Option Addr) (l : List (Int × Int)) (n cap : Nat) (w : World) (hn : l.length = n) (hs : Sl2 w a l) (hn2 : n ≤ 1048576) (hno : ¬ GoodS l) :
    Calls Tryd.prog 98 #[.slice a n cap] w fun e w' => e = .returned (.tuple #[.slice none 0 0, .bool false]) ∧ Below w.heap.size w w' := by
  have C1 := hide (goodSamples_any a l n cap w hn hs hn2 false (by simp [hno]))
  clear hn hs hno
  go_enter Tryd.func98, Tryd.ntmps98
  go_wp2_with fail
  refine C1.out.mono ?_
  rintro e w1 ⟨rfl, hb1⟩
  go_wp2
  go_ret2
  exact ⟨rfl, hb1⟩

theorem cell_two_new (w : World) (p q : Value) (t : TypeId) : ∀ j u, [p, q][j]? = some u → (w.alloc (.cells #[p, q] t)).cell? ((⟨w.heap.size, 0, none⟩ : Addr).add j) = some u := by
  intro j u h
  rw [addr_add]
  match j, h with
  | 0, h => simp at h; subst h; simp
  | 1, h => simp at h; subst h; simp
  | j + 2, h => simp at h
set_option maxRecDepth 100000 in
set_option maxHeartbeats 4000000 in
theorem chunkNumbers_yes (a : Option Addr) (l : List (Int × Int)) (n cap : Nat) (w : World) (hn : l.length = n) (hs : Sl2 w a l) (hg : GoodS l) :
    Calls Tryd.prog 98 #[.slice a n cap] w fun e w' => ∃ v, e = .returned (.tuple #[v, .bool true]) ∧ w'.ownsRow w.heap.size 3 1 v (1 + 2 * n) ((nums l).map (Value.int .i64)) ∧ Below w.heap.size w w' := by
  have hn2 : n ≤ 40 := by have := hg.1; omega
  have C1 := hide (goodSamples_any a l n cap w hn hs (by omega) true (by simp [hg]))
  have D1 := hide (fun a cap w hs => deltasOf_any a (ats l) n cap w (by rw [ats_len, hn]) hs (by omega))
  have D2 := hide (fun a cap w hs => deltasOf_any a (dl 0 (ats l)) n cap w (by rw [dl_len, ats_len, hn]) hs (by omega))
  have D3 := hide (fun a cap w hs => deltasOf_any a (vals l) n cap w (by rw [vals_len, hn]) hs (by omega))
  simp only [dRes_ats hg, dRes_steps hg, dRes_vals hg, RetL, Option.isSome_some, Option.getD_some, dl_len, ats_len, vals_len, hn] at D1 D2 D3
  obtain ⟨bs, hbs⟩ : ∃ bs, bs = dl 0 (dl 0 (ats l)) := ⟨_, rfl⟩
  obtain ⟨cs, hcs⟩ : ∃ cs, cs = dl 0 (vals l) := ⟨_, rfl⟩
  have hbl : bs.length = n := by rw [hbs, dl_len, dl_len, ats_len, hn]
  have hcl : cs.length = n := by rw [hcs, dl_len, vals_len, hn]
  have hnum : nums l = (n : Int) :: inter bs cs := by rw [hbs, hcs, ← hn]; rfl
  rw [← hbs] at D2
  rw [← hcs] at D3
  obtain ⟨i0, hi, hz0, hz1, hz2⟩ := info_parts info_int
  have HS := hide hs
  have HN := hide hn
  have HBL := hide hbl
  have HCL := hide hcl
  have HNUM := hide hnum
  clear hs hn hg hbs hcs hbl hcl hnum
  go_enter Tryd.func98, Tryd.ntmps98
  go_wp2_with fail
  refine C1.out.mono ?_
  rintro e w1 ⟨rfl, hb1⟩
  have B1 := hide hb1
  clear hb1
  go_wp2
  go_loopw [4, 5, 21] (fun ot ov i wr => ∃ k : Nat, k ≤ n ∧ i = .int .i64 k ∧ Two w.heap.size wr ot ov k ((ats l).take k) ((vals l).take k) ∧ Below w.heap.size w wr) (fun _ _ i _ => n - (intOf i).toNat)
  case atStart => exact ⟨0, Nat.zero_le _, rfl, two_nil _ _, B1.out⟩
  case round =>
    obtain ⟨k, hk, rfl, htwo, hbel⟩ := hrel
    obtain ⟨oa, ocap, qa, qcap, rfl, rfl, _, _⟩ := htwo.form
    by_cases hlt : k < n
    · obtain ⟨b, off, rfl, hc0, hd0⟩ := HS.out k (by rw [HN.out]; exact hlt)
      have hc : wr.cell? ⟨b, off + k * 2, none⟩ = some (.int .i64 (l.getD k (0, 0)).1) := by
        rw [hbel.cell (p := ⟨b, off + k * 2, none⟩) (blk_lt hc0)]; exact hc0
      have hd : wr.cell? ⟨b, off + k * 2 + 1, none⟩ = some (.int .i64 (l.getD k (0, 0)).2) := by
        rw [hbel.cell (p := ⟨b, off + k * 2 + 1, none⟩) (blk_lt hd0)]; exact hd0
      have hltI : (k : Int) < (n : Int) := by omega
      have ht1 := ltake_snoc (ats l) k (by rw [ats_len, HN.out]; exact hlt)
      have ht2 := ltake_snoc (vals l) k (by rw [vals_len, HN.out]; exact hlt)
      rw [ats_get] at ht1
      rw [vals_get] at ht2
      obtain ⟨x, hx⟩ : ∃ x, x = (l.getD k (0, 0)).1 := ⟨_, rfl⟩
      obtain ⟨y, hy⟩ : ∃ y, y = (l.getD k (0, 0)).2 := ⟨_, rfl⟩
      rw [← hx] at hc ht1
      rw [← hy] at hd ht2
      obtain ⟨ts, hts⟩ : ∃ ts, ts = (ats l).take k := ⟨_, rfl⟩
      obtain ⟨vs, hvs⟩ : ∃ vs, vs = (vals l).take k := ⟨_, rfl⟩
      rw [← hts] at ht1 htwo
      rw [← hvs] at ht2 htwo
      have HT1 := hide ht1
      have HT2 := hide ht2
      have hbs := hbel.size
      have HTW := hide htwo
      clear hc0 hd0 hx hy ht1 ht2 htwo hts hvs
      go_wp2_with (first
        | (at_builtin; refine wpList_append_own_at _ rfl _ _ 32 rfl w.heap.size 3 i0 (.int .i64 0) 1 8 Tryd.underlying32 hi hz0 hz1 hz2 rfl (by decide) _ _ _ rfl ((HTW.out.1.alloc _).alloc _) ⟨wr.heap.size + 1, 0, none⟩ 1 1 [.int .i64 x] rfl rfl (fun j u h => by have := cell_one_new (wr.alloc (.cells #[.int .i64 x, .int .i64 y] 50)) (.int .i64 x) 3 j u h; rw [World.size_alloc] at this; exact this) (by intro u hu; simp at hu; subst hu; rfl) (by unfold maxLen; omega) (by omega) (by simp; omega) ?_)
        | go_in)
      intro v3 w3 hown3 hgrow3 _ hblk3
      have F3 := two_first HTW.out hgrow3 hown3 (by simpa using hblk3) (y := .int .i64 y)
      obtain ⟨hy3, hb3, HF3⟩ := F3
      have hb3' := hbel.trans (hb3.mono (Nat.le_refl _))
      have hs3 := hb3'.size
      clear hown3 hgrow3 hblk3 hb3
      obtain ⟨g3, c3, rfl⟩ := ownsRow_succ' HF3.out.1
      go_wp2_with (first
        | (at_builtin; refine wpList_append_own_at _ rfl _ _ 32 rfl w.heap.size 3 i0 (.int .i64 0) 1 8 Tryd.underlying32 hi hz0 hz1 hz2 rfl (by decide) _ _ _ rfl (HF3.out.2.1.alloc _) ⟨w3.heap.size, 0, none⟩ 1 1 [.int .i64 y] rfl rfl (cell_one_new _ _ _) (by intro u hu; simp at hu; subst hu; rfl) (by unfold maxLen; omega) (by omega) (by simp; omega) ?_)
        | go_in)
      intro v4 w4 hown4 hgrow4 _ hblk4
      have F4 := hide (two_second HF3.out hgrow4 hown4 (by simpa using hblk4))
      have hb4 := hb3'.trans (below_app hs3 hgrow4 (fun g hg => (HF3.out.2.1.lt g hg).1))
      clear hown4 hgrow4 hblk4
      go_wp2
      go_roundw
      case rel => exact ⟨k + 1, by omega, by go_num, by rw [HT1.out, HT2.out]; simpa using F4.out, hb4⟩
      case measure => simp [intOf]; omega
    · obtain rfl : n = k := by omega
      have e1 : (ats l).take n = ats l := List.take_of_length_le (by rw [ats_len, HN.out]; omega)
      have e2 : (vals l).take n = vals l := List.take_of_length_le (by rw [vals_len, HN.out]; omega)
      rw [e1, e2] at htwo
      have hltI : ¬ (n : Int) < (n : Int) := by omega
      have HTW := hide htwo
      clear e1 e2 htwo
      obtain ⟨ta, tc, va, vc, e1, e2, hst, hsv⟩ := HTW.out.form
      cases e1
      cases e2
      have HT := hide hst
      have HV := hide hsv
      clear hst hsv
      go_wp2_with fail
      refine (D1.out _ _ _ HT.out).mono ?_
      rintro e w2 ⟨v1, rfl, ho2, hb2⟩
      obtain ⟨s1, k1, rfl, sl1, _⟩ := own_form ho2
      have V2 := hide (HV.out.below hb2)
      have T2 := hide sl1
      have B2 := hide (hbel.trans (hb2.mono hbel.size))
      clear ho2 sl1 hb2
      go_wp2_with fail
      refine (D2.out _ _ _ T2.out).mono ?_
      rintro e w3 ⟨v2, rfl, ho3, hb3⟩
      obtain ⟨s2, k2, rfl, sl2, _⟩ := own_form ho3
      have V3 := hide (V2.out.below hb3)
      have T3 := hide sl2
      have B3 := hide (B2.out.trans (hb3.mono B2.out.size))
      clear ho3 sl2 hb3
      go_wp2_with fail
      refine (D3.out _ _ _ V3.out).mono ?_
      rintro e W2 ⟨v3, rfl, ho4, hb4⟩
      obtain ⟨s3, k3, rfl, sl3, _⟩ := own_form ho4
      have T4 := hide (T3.out.below hb4)
      have V4 := hide sl3
      have B4 := hide (B3.out.trans (hb4.mono B3.out.size))
      clear ho4 sl3 hb4 T3 V3 B3 B2 V2 T2 D1 D2 D3 C1 HTW hbel hltI B1
      go_wp2
      go_loopw [14, 56] (fun o i wr => ∃ k : Nat, k ≤ n ∧ i = .int .i64 k ∧ wr.ownsRow W2.heap.size 3 1 o (1 + 2 * k) (((n : Int) :: inter (bs.take k) (cs.take k)).map (Value.int .i64)) ∧ Below W2.heap.size W2 wr) (fun _ i _ => n - (intOf i).toNat)
      case atStart => exact ⟨0, Nat.zero_le _, rfl, by simpa [inter] using one_row W2 n, (Below.refl _ _).alloc (Nat.le_refl _) _⟩
      case round =>
        obtain ⟨k, hk, rfl, hown, hbel2⟩ := hrel
        obtain ⟨oa, ocap, rfl, _, _⟩ := own_form hown
        by_cases hlt : k < n
        · obtain ⟨bb, bo, rfl, hcx0⟩ := T4.out k (by rw [HBL.out]; exact hlt)
          obtain ⟨cb, co, rfl, hcy0⟩ := V4.out k (by rw [HCL.out]; exact hlt)
          have hcx := (hbel2.cell (p := ⟨bb, bo + k, none⟩) (blk_lt hcx0)).trans hcx0
          have hcy := (hbel2.cell (p := ⟨cb, co + k, none⟩) (blk_lt hcy0)).trans hcy0
          have HBB := hide (blk_lt hcx0)
          have HCB := hide (blk_lt hcy0)
          have htk := nums_take HBL.out HCL.out hlt (n : Int)
          obtain ⟨x, hx⟩ : ∃ x, x = bs.getD k 0 := ⟨_, rfl⟩
          obtain ⟨y, hy⟩ : ∃ y, y = cs.getD k 0 := ⟨_, rfl⟩
          rw [← hx] at hcx htk
          rw [← hy] at hcy htk
          obtain ⟨ns, hns⟩ : ∃ ns, ns = (n : Int) :: inter (bs.take k) (cs.take k) := ⟨_, rfl⟩
          rw [← hns] at htk hown
          have HTK := hide htk
          have HROW := hide hown
          have hltI : (k : Int) < (n : Int) := by omega
          have hk0 : (0 : Int) ≤ (k : Int) := by omega
          have hsz2 := hbel2.size
          clear hcx0 hcy0 hx hy htk hns hown
          go_wp2
          refine wp_region_held_drew (S := (fun wx => wx.cell? ⟨bb, bo + k, none⟩ = some (.int .i64 x) ∧ wx.cell? ⟨cb, co + k, none⟩ = some (.int .i64 y) ∧ Below W2.heap.size W2 wx)) (by kernel_rfl) ⟨hcx, hcy, hbel2.drew⟩ (fun hHeld => ?_)
          refine wpAnyH_take (i := 0) (v := ?v1) rfl (by kernel_rfl) (by kernel_rfl) (by kernel_rfl) (fun _ _ _ h => h) (Or.inl ⟨by rfl, ?y1⟩) (by assumption) ?r1
          case y1 => (intro w hSw; (try dsimp only at hSw); go_simp; try (with_reducible rfl))
          simp only [List.getElem_toArray, List.getElem_cons_zero, Act.put, List.setIfInBounds_toArray, List.set_cons_zero, List.set_cons_succ]
          refine wpAnyH_take (i := 1) (v := ?v2) rfl (by kernel_rfl) (by kernel_rfl) (by kernel_rfl) (fun _ _ _ h => h) (Or.inl ⟨by rfl, ?y2⟩) (by assumption) ?r2
          case y2 => (intro w hSw; (try dsimp only at hSw); go_simp; try (with_reducible rfl))
          simp only [List.getElem_toArray, List.getElem_cons_succ, List.getElem_cons_zero, Act.put, List.setIfInBounds_toArray, List.set_cons_zero, List.set_cons_succ]
          refine wpAnyH_take (i := 2) (v := ?v3) rfl (by kernel_rfl) (by kernel_rfl) (by kernel_rfl) (fun _ _ _ h => h) (Or.inl ⟨by rfl, ?y3⟩) (by assumption) ?r3
          case y3 => (intro w hSw; (try dsimp only at hSw); go_simp; try (with_reducible rfl))
          simp only [List.getElem_toArray, List.getElem_cons_succ, List.getElem_cons_zero, Act.put, List.setIfInBounds_toArray, List.set_cons_zero, List.set_cons_succ]
          refine wpAnyH_take (i := 3) (v := ?v4) rfl (by kernel_rfl) (by kernel_rfl) (by kernel_rfl) (fun _ _ _ h => h) (Or.inl ⟨by rfl, ?y4⟩) (by assumption) ?r4
          case y4 => (intro w hSw; (try dsimp only at hSw); go_simp; try (with_reducible rfl))
          simp only [List.getElem_toArray, List.getElem_cons_succ, List.getElem_cons_zero, Act.put, List.setIfInBounds_toArray, List.set_cons_zero, List.set_cons_succ]
          refine wpAnyH_take (i := 4) (v := ?v5) rfl (by kernel_rfl) (by kernel_rfl) (by kernel_rfl) (fun _ _ _ h => h) (Or.inl ⟨by rfl, ?y5⟩) (by assumption) ?r5
          case y5 => (intro w hSw; (try dsimp only at hSw); go_simp; try (with_reducible rfl))
          simp only [List.getElem_toArray, List.getElem_cons_succ, List.getElem_cons_zero, Act.put, List.setIfInBounds_toArray, List.set_cons_zero, List.set_cons_succ]
          refine wpAnyH_take (i := 5) (v := ?v6) rfl (by kernel_rfl) (by kernel_rfl) (by kernel_rfl) (fun _ _ _ h => h) (Or.inl ⟨by rfl, ?y6⟩) (by assumption) ?r6
          case y6 => (intro w hSw; (try dsimp only at hSw); go_simp; try (with_reducible rfl))
          simp only [List.getElem_toArray, List.getElem_cons_succ, List.getElem_cons_zero, Act.put, List.setIfInBounds_toArray, List.set_cons_zero, List.set_cons_succ]
          refine wpAnyH_take (i := 6) (v := ?v7) rfl (by kernel_rfl) (by kernel_rfl) (by kernel_rfl) (fun _ _ _ h => h) (Or.inl ⟨by rfl, ?y7⟩) (by assumption) ?r7
          case y7 => (intro w hSw; (try dsimp only at hSw); go_simp; try (with_reducible rfl))
          simp only [List.getElem_toArray, List.getElem_cons_succ, List.getElem_cons_zero, Act.put, List.setIfInBounds_toArray, List.set_cons_zero, List.set_cons_succ]
          refine wpAnyH_take (i := 7) (v := ?v8) rfl (by kernel_rfl) (by kernel_rfl) (by kernel_rfl) (fun _ _ _ h => h) (Or.inl ⟨by rfl, ?y8⟩) (by assumption) ?r8
          case y8 => (intro w hSw; (try dsimp only at hSw); go_simp; try (with_reducible rfl))
          simp only [List.getElem_toArray, List.getElem_cons_succ, List.getElem_cons_zero, Act.put, List.setIfInBounds_toArray, List.set_cons_zero, List.set_cons_succ]
          refine wpAnyH_take (i := 8) (v := ?v9) rfl (by kernel_rfl) (by kernel_rfl) (by kernel_rfl) (fun _ _ _ h => h) (Or.inl ⟨by rfl, ?y9⟩) (by assumption) ?r9
          case y9 => (intro w hSw; (try dsimp only at hSw); go_simp; try (with_reducible rfl))
          simp only [List.getElem_toArray, List.getElem_cons_succ, List.getElem_cons_zero, Act.put, List.setIfInBounds_toArray, List.set_cons_zero, List.set_cons_succ]
          refine wpAnyH_ready (rs := [9]) (by kernel_rfl) (by simp) ?_
          refine AllReadyH.cons rfl (fun K hK => ?_) AllReadyH.nil
          simp only [List.getElem_toArray, List.getElem_cons_succ, List.getElem_cons_zero]
          go_simp
          refine hK.out _ _ ?_ (fun hHeld => ?_)
          · exact keepA hHeld (show Below W2.heap.size wr.drew _ from (Below.refl _ wr.drew).alloc hbel2.size (.cells #[.int .i64 x, .int .i64 y] 3)) HBB.out HCB.out
          clear hK K
          try simp only [Act.put, List.setIfInBounds_toArray, List.set_cons_zero, List.set_cons_succ]
          refine wpAnyH_ready (rs := [10]) (by kernel_rfl) (by simp) ?_
          refine AllReadyH.cons rfl (fun K hK => ?_) AllReadyH.nil
          simp only [List.getElem_toArray, List.getElem_cons_succ, List.getElem_cons_zero]
          rw [if_pos (by rfl)]
          refine wp_append_lies _ (.tmp 59) (.tmp 68) 32 rfl W2.heap.size 3 i0 (.int .i64 0) 1 8 Tryd.underlying32 hi hz0 hz1 hz2 rfl (by decide) (.slice oa (1 + 2 * k) ocap) (1 + 2 * k) (ns.map (Value.int .i64)) rfl (HROW.out.alloc (.cells #[.int .i64 x, .int .i64 y] 3)) ⟨wr.heap.size, 0, none⟩ 2 2 [.int .i64 x, .int .i64 y] rfl rfl ?_ ?_ (by decide) (by unfold maxLen; omega) (by omega) (Nat.le_trans hsz2 (by show wr.heap.size ≤ (wr.alloc _).heap.size; simp)) _ rfl ?_
          · exact fun j u h => cell_two_new wr (.int .i64 x) (.int .i64 y) 3 j u h
          · intro u hu
            simp at hu
            rcases hu with rfl | rfl <;> rfl
          intro g4 c4 w4 hown4 hgrow4 _ _
          have hb4 : Below W2.heap.size (wr.alloc (.cells #[.int .i64 x, .int .i64 y] 3)).drew w4 := (Below.refl _ _).grown hgrow4 (Nat.le_trans hsz2 (by show wr.heap.size ≤ (wr.alloc _).heap.size; simp)) (fun g hg => (HROW.out.lt g hg).1)
          refine hK.out _ _ ?_ (fun hHeld => ?_)
          · exact keepA hHeld hb4 HBB.out HCB.out
          clear hK K hgrow4 hb4
          try simp only [Act.put, List.setIfInBounds_toArray, List.set_cons_zero, List.set_cons_succ]
          refine wpAnyH_take (i := 11) (v := ?v10) rfl (by kernel_rfl) (by kernel_rfl) (by kernel_rfl) (fun _ _ _ h => h) (Or.inl ⟨by rfl, ?y10⟩) (by assumption) ?r10
          case y10 => (intro w hSw; (try dsimp only at hSw); go_simp; try (with_reducible rfl))
          simp only [List.getElem_toArray, List.getElem_cons_succ, List.getElem_cons_zero, Act.put, List.setIfInBounds_toArray, List.set_cons_zero, List.set_cons_succ]
          refine wpAnyH_done (by kernel_rfl) ?_ _
          have HO4 := hide hown4
          have HB4 := hide hHeld.2.2
          clear hown4 hHeld
          go_wp2
          go_roundw
          case rel => exact ⟨k + 1, by omega, by go_num, by rw [show 1 + 2 * (k + 1) = 1 + 2 * k + 2 by omega, HTK.out]; simpa using HO4.out, HB4.out⟩
          case measure => simp [intOf]; omega
        · obtain rfl : n = k := by omega
          have e1 : bs.take n = bs := List.take_of_length_le (by rw [HBL.out]; omega)
          have e2 : cs.take n = cs := List.take_of_length_le (by rw [HCL.out]; omega)
          rw [e1, e2, ← HNUM.out] at hown
          have HO := hide (own_base hown B4.out.size)
          have hltI : ¬ (n : Int) < (n : Int) := by omega
          clear e1 e2 hown
          go_wp2
          go_ret2
          exact ⟨_, rfl, HO.out, B4.out.trans (hbel2.mono B4.out.size)⟩
end Go.Proofs.YtapffbbmofhpoaaDoor.L1

namespace Go.Proofs.YtapffbbmofhpoaaDoor.L1
open Go.RowKit
set_option linter.unusedVariables false

set_option maxRecDepth 100000 in
set_option maxHeartbeats 400000 in
theorem digitsOf_any (z : Int) (w : World) (h0 : 0 ≤ z) (h1 : z ≤ 2000000000000) (ht : Tab w) :
    Calls Tryd.prog 74 #[.int .i64 z] w fun e w' => e = .returned (.int .i64 ((vd z).length : Nat)) ∧ w = w' := by
  have hpos := vdf_pos 5 z
  have hle := vdf_le 5 z
  have hlen := vdf_len 5 z
  change 1 ≤ (vd z).length at hpos
  change (vd z).length ≤ 6 at hle
  change ∀ k : Nat, 0 ≤ z → 1 ≤ k → (k < (vd z).length ↔ k ≤ 5 ∧ wor k ≤ z) at hlen
  have HL := hide hlen
  have HT := hide ht
  clear hlen ht
  generalize (vd z).length = m at *
  go_enter Tryd.func74, Tryd.ntmps74
  go_wp2
  go_loop [3] (fun i => ∃ k : Nat, 1 ≤ k ∧ k ≤ m ∧ i = .int .i64 k) (fun i => 6 - (intOf i).toNat)
  case atStart => exact ⟨1, by omega, by omega, rfl⟩
  case round =>
    obtain ⟨k, hk1, hk2, rfl⟩ := hrel
    by_cases hlt : k < m
    · have h := (unhide HL k h0 hk1).1 hlt
      have hc := unhide HT k (by omega)
      have h6 : (k : Int) < 6 := by omega
      have hw := h.2
      clear h
      go_wp2
      go_round
      case rel => exact ⟨k + 1, by omega, by omega, by go_num⟩
      case measure => simp [intOf]; omega
    · obtain rfl : k = m := by omega
      by_cases h6 : (k : Int) < 6
      · have hc := unhide HT k (by omega)
        have hw : ¬ wor k ≤ z := fun h => by have := (unhide HL k h0 hk1).2 ⟨by omega, h⟩; omega
        go_wp2
        go_ret
        exact ⟨rfl, rfl⟩
      · go_wp2
        go_ret
        exact ⟨rfl, rfl⟩
end Go.Proofs.YtapffbbmofhpoaaDoor.L1
