/-
  Contracts: impl.goodPlace, impl.isEmptyPlace, slices.Index of the empty text, impl.takenPlaces.
  Contract: impl.findPlace.
  Contracts: impl.NewHeavy, spec.NewHeavy.
  Contract: impl.GoodHeavy.
  Contract: impl.AddHeavy.
  Contract: spec.AddHeavy.
  How long the lists are that AddHeavy answers. Nothing of the program's text is proved here.
  Contract of the laws' own helper szStringS.
-/
import Derived.Test.YticgejaaoamhmaoBundle2
import Derived.Test.YticgejaaoamhmaoBundle3
import Derived.Deep.DeepCutAuto
import Derived.Deep.RegionHeld3
import Derived.Test.YticgejaaoamhmaoBundle1
import Derived.Test.YticgejaaoamhmaoBundle4
namespace Go.Proofs.Yticgejaaoamhmao.L15H
open Go.RowKit L1 Own Str
set_option linter.unusedVariables false

set_option maxRecDepth 100000 in
set_option maxHeartbeats 1000000 in
theorem goodPlace_any (s : ByteArray) (c : Int) (w : World) (hs : s.size ≤ 9223372036854775807) (bb : Bool) (hbb : bb = true ↔ L3.Word false s ∧ 1 ≤ c ∧ c ≤ 100000) :
    Calls Try.prog 67 #[.string s, .int .i64 c] w fun e w' => e = .returned (.bool bb) ∧ Below w.heap.size w w' := by
  obtain ⟨bw, hbw⟩ := dec_exH (L3.Word false s)
  have C := hide (fun wx => L3.isName_any s wx hs bw hbw)
  cases bw with
  | false =>
    obtain rfl : bb = false := bool_noG hbb (fun h => by have := hbw.2 h.1; cases this)
    clear hbb hbw
    go_enter Try.func67, Try.ntmps67
    go_wp2_with fail
    refine (C.out _).mono ?_
    rintro e w1 ⟨rfl, hb⟩
    go_wp2
    go_ret
    exact ⟨rfl, hb⟩
  | true =>
    have hw := hbw.1 rfl
    by_cases h1 : c ≥ 1
    · have E : Hid (bb = decide (c ≤ 100000)) := hide (by rw [Bool.eq_iff_iff, hbb]; simp; exact ⟨fun q => q.2.2, fun q => ⟨hw, h1, q⟩⟩)
      clear hbb hbw hw
      go_enter Try.func67, Try.ntmps67
      go_wp2_with fail
      refine (C.out _).mono ?_
      rintro e w1 ⟨rfl, hb⟩
      go_wp2
      go_ret
      exact ⟨by rw [E.out]; rfl, hb⟩
    · obtain rfl : bb = false := bool_noG hbb (fun h => h1 h.2.1)
      clear hbb hbw hw
      go_enter Try.func67, Try.ntmps67
      go_wp2_with fail
      refine (C.out _).mono ?_
      rintro e w1 ⟨rfl, hb⟩
      go_wp2
      go_ret
      exact ⟨rfl, hb⟩
set_option maxRecDepth 100000 in
set_option maxHeartbeats 1000000 in
theorem isEmptyPlace_any (s : ByteArray) (c : Int) (w : World) (bb : Bool) (hbb : bb = true ↔ s = e0 ∧ c = 0) :
    Calls Try.prog 68 #[.string s, .int .i64 c] w fun e w' => e = .returned (.bool bb) ∧ w = w' := by
  by_cases hs : s = e0
  · subst hs
    have E : Hid (bb = (c == 0)) := hide (by rw [Bool.eq_iff_iff, hbb]; simp)
    clear hbb
    go_enter Try.func68, Try.ntmps68
    go_wp2
    go_ret
    exact ⟨by rw [E.out]; rfl, rfl⟩
  · obtain rfl : bb = false := bool_noG hbb (fun h => hs h.1)
    have hs2 := ne_list hs
    clear hbb
    go_enter Try.func68, Try.ntmps68
    go_wp2
    go_ret
    exact ⟨rfl, rfl⟩
set_option maxRecDepth 100000 in
set_option maxHeartbeats 1000000 in
theorem indexE_any (a : Option Addr) (xs : List ByteArray) (n cap k : Nat) (w : World) (hn : xs.length = n) (hs : SlS w a xs) (hn2 : n ≤ 1048576) (hk : IsTk xs n k) (r : Int) (hr : r = if k < n then (k : Int) else -1) :
    Calls Try.prog 72 #[.slice a n cap, .string ByteArray.empty] w fun e w' => e = .returned (.int .i64 r) ∧ w = w' := by
  have HS := hide hs
  have HN := hide hn
  have HK := hide hk
  have HR := hide hr
  have hkn := hk.le
  clear hs hn hk hr
  go_enter Try.func72, Try.ntmps72
  go_wp2
  go_loop [8] (fun i => ∃ j : Nat, j ≤ k ∧ i = .int .i64 j ∧ Hid True) (fun i => k - (intOf i).toNat)
  case atStart => exact ⟨0, Nat.zero_le _, rfl, hide trivial⟩
  case round =>
    obtain ⟨j, hj, rfl, HTR⟩ := hrel
    by_cases hlt : j < n
    · obtain ⟨b, off, rfl, hc⟩ := HS.out j (by rw [HN.out]; exact hlt)
      have hltI : (j : Int) < (n : Int) := by omega
      have hj0 : (0 : Int) ≤ (j : Int) := by omega
      by_cases e : j = k
      · have hx := HK.out.emp (by omega)
        subst e
        rw [hx] at hc
        have E : Hid (r = (j : Int)) := hide (by rw [HR.out, if_pos hlt])
        clear hx
        go_wp2
        go_ret
        exact ⟨by rw [E.out]; rfl, rfl⟩
      · have hx := HK.out.ne j (by omega)
        obtain ⟨x, hxx⟩ : ∃ x, x = xs.getD j e0 := ⟨_, rfl⟩
        rw [← hxx] at hc hx
        have hx2 := ne_list hx
        clear hxx hx
        go_wp2
        go_round
        case rel => exact ⟨j + 1, by omega, by go_num, HTR⟩
        case measure => simp [intOf]; omega
    · have hltI : ¬ (j : Int) < (n : Int) := by omega
      have E : Hid (r = -1) := hide (by rw [HR.out, if_neg (by omega)])
      go_wp2
      go_ret
      exact ⟨by rw [E.out]; rfl, rfl⟩
set_option maxRecDepth 100000 in
set_option maxHeartbeats 1000000 in
theorem takenPlaces_any (a : Option Addr) (n c : Nat) (b : Option Addr) (m d : Nat) (G T : Int) (h : Hv) (k : Nat) (w : World) (hf : HF w a b n m h) (hn2 : n ≤ 1048576) (hk : IsTk h.nm n k) :
    Calls Try.prog 44 #[.agg #[.slice a n c, .slice b m d, .int .i64 G, .int .i64 T]] w fun e w' => e = .returned (.int .i64 (k : Int)) ∧ Below w.heap.size w w' := by
  have BX := (Below.refl w.heap.size w).alloc (Nat.le_refl _) (hvO (.slice a n c) (.slice b m d) G T)
  have g0 := L8.blk_new w (hvO (.slice a n c) (.slice b m d) G T)
  obtain ⟨W0, hW0⟩ : ∃ W0, W0 = w.alloc (hvO (.slice a n c) (.slice b m d) G T) := ⟨_, rfl⟩
  rw [← hW0] at BX g0
  obtain ⟨k0, k1, k2, k3⟩ := blk4 g0
  have HW := hide hW0
  have B0 := hide BX
  have hkn := hk.le
  obtain ⟨r, hr⟩ : ∃ r : Int, r = if k < n then (k : Int) else -1 := ⟨_, rfl⟩
  have C := hide (indexE_any a h.nm n c k W0 hf.ln (hf.sN.below BX) hn2 hk r hr)
  clear hf hk BX g0 hW0
  by_cases hlt : k < n
  · obtain rfl : r = (k : Int) := by rw [hr, if_pos hlt]
    have hr0 : ¬ (k : Int) < 0 := by omega
    clear hr
    go_enter Try.func44, Try.ntmps44
    go_upto_region 1 with fail
    rw [← HW.out]
    go_wp2_with fail
    refine C.out.mono ?_
    rintro e w1 ⟨rfl, rfl⟩
    go_wp2
    go_ret
    exact ⟨rfl, B0.out⟩
  · obtain rfl : r = -1 := by rw [hr, if_neg hlt]
    obtain rfl : k = n := by omega
    clear hr
    go_enter Try.func44, Try.ntmps44
    go_upto_region 1 with fail
    rw [← HW.out]
    go_wp2_with fail
    refine C.out.mono ?_
    rintro e w1 ⟨rfl, rfl⟩
    go_wp2
    go_ret
    exact ⟨rfl, B0.out⟩
end Go.Proofs.Yticgejaaoamhmao.L15H

namespace Go.Proofs.Yticgejaaoamhmao.L15H
open Go.RowKit L1 Own Str
set_option linter.unusedVariables false

set_option maxRecDepth 100000 in
set_option maxHeartbeats 4000000 in
theorem findPlace_any (a : Option Addr) (n c : Nat) (b : Option Addr) (m d : Nat) (G T : Int) (h : Hv) (s : ByteArray) (tk p : Nat) (ok : Bool) (w : World) (hf : HF w a b n m h) (hn0 : 0 < n) (hn2 : n ≤ 1048576) (hc : n ≤ c) (hk : IsTk h.nm n tk) (hr : Rise h.nm tk) (hp : IsAt h.nm tk s p) (hok : ok = true ↔ p < tk ∧ na h p = s) :
    Calls Try.prog 43 #[.agg #[.slice a n c, .slice b m d, .int .i64 G, .int .i64 T], .string s] w fun e w' => e = .returned (.tuple #[.int .i64 (p : Int), .bool ok]) ∧ Below w.heap.size w w' := by
  obtain ⟨ba, oa, rfl, _⟩ := hf.sN 0 (by rw [hf.ln]; exact hn0)
  have BX := (Below.refl w.heap.size w).alloc (Nat.le_refl _) (hvO (.slice (some ⟨ba, oa, none⟩) n c) (.slice b m d) G T)
  have g0 := L8.blk_new w (hvO (.slice (some ⟨ba, oa, none⟩) n c) (.slice b m d) G T)
  obtain ⟨W0, hW0⟩ : ∃ W0, W0 = w.alloc (hvO (.slice (some ⟨ba, oa, none⟩) n c) (.slice b m d) G T) := ⟨_, rfl⟩
  rw [← hW0] at BX g0
  obtain ⟨k0, k1, k2, k3⟩ := blk4 g0
  have HW := hide hW0
  have B0 := hide BX
  have F0 := hide (hf.below BX)
  have hkn := hk.le
  have hkc : (tk : Int) ≤ (c : Int) := by omega
  have hk0 : (0 : Int) ≤ (tk : Int) := by omega
  have CT := hide (fun wx (hb : Below W0.heap.size W0 wx) => takenPlaces_any (some ⟨ba, oa, none⟩) n c b m d G T h tk wx (F0.out.below hb) hn2 hk)
  have CS := hide (fun wx (hb : Below W0.heap.size W0 wx) => searchS_any (some ⟨ba, oa, none⟩) h.nm tk c s wx (by rw [hf.ln]; exact hkn) (by omega) (fun i hi => (F0.out.below hb).sN i (by rw [hf.ln]; omega)) hr p hp ok hok)
  clear hf hk hr hp hok BX g0 hW0
  go_enter Try.func43, Try.ntmps43
  go_upto_region 1 with fail
  rw [← HW.out]
  refine wp_region_held_drew (S := (fun wx => (wx.cell? ⟨w.heap.size, 0, none⟩ = some (.slice (some ⟨ba, oa, none⟩) n c) ∧ wx.cell? ⟨w.heap.size, 1, none⟩ = some (.slice b m d) ∧ wx.cell? ⟨w.heap.size, 2, none⟩ = some (.int .i64 G) ∧ wx.cell? ⟨w.heap.size, 3, none⟩ = some (.int .i64 T)) ∧ Below W0.heap.size W0 wx)) (by kernel_rfl) ⟨⟨k0, k1, k2, k3⟩, (Below.refl _ _).drew⟩ (fun hHeld => ?_)
  refine wpAnyH_take (i := 0) (v := ?v1) rfl (by kernel_rfl) (by kernel_rfl) (by kernel_rfl) (fun _ _ _ h => h) (Or.inl ⟨by rfl, ?y1⟩) (by assumption) ?r1
  case y1 => (intro w hSw; (try dsimp only at hSw); go_simp; try (with_reducible rfl))
  simp only [List.getElem_toArray, List.getElem_cons_zero, Act.put, List.setIfInBounds_toArray, List.set_cons_zero, List.set_cons_succ]
  refine wpAnyH_take (i := 1) (v := ?v2) rfl (by kernel_rfl) (by kernel_rfl) (by kernel_rfl) (fun _ _ _ h => h) (Or.inl ⟨by rfl, ?y2⟩) (by assumption) ?r2
  case y2 => (intro w hSw; (try dsimp only at hSw); go_simp; try (with_reducible rfl))
  simp only [List.getElem_toArray, List.getElem_cons_succ, List.getElem_cons_zero, Act.put, List.setIfInBounds_toArray, List.set_cons_zero, List.set_cons_succ]
  refine wpAnyH_take (i := 2) (v := ?v3) rfl (by kernel_rfl) (by kernel_rfl) (by kernel_rfl) (fun _ _ _ h => h) (Or.inl ⟨by rfl, ?y3⟩) (by assumption) ?r3
  case y3 => (intro w hSw; (try dsimp only at hSw); go_simp; try (with_reducible rfl))
  simp only [List.getElem_toArray, List.getElem_cons_succ, List.getElem_cons_zero, Act.put, List.setIfInBounds_toArray, List.set_cons_zero, List.set_cons_succ]
  refine wpAnyH_take (i := 5) (v := ?v4) rfl (by kernel_rfl) (by kernel_rfl) (by kernel_rfl) (fun _ _ _ h => h) (Or.inl ⟨by rfl, ?y4⟩) (by assumption) ?r4
  case y4 => (intro w hSw; (try dsimp only at hSw); go_simp; try (with_reducible rfl))
  simp only [List.getElem_toArray, List.getElem_cons_succ, List.getElem_cons_zero, Act.put, List.setIfInBounds_toArray, List.set_cons_zero, List.set_cons_succ]
  refine wpAnyH_ready (rs := [3]) (by kernel_rfl) (by simp) ?_
  refine AllReadyH.cons rfl (fun K hK => ?_) AllReadyH.nil
  simp only [List.getElem_toArray, List.getElem_cons_succ, List.getElem_cons_zero]
  go_simp
  go_at_call 44
  refine (CT.out _ hHeld.2).mono ?_
  rintro e w5 ⟨rfl, hb⟩
  have E5 := hide (hHeld.2.trans (hb.mono hHeld.2.size))
  dsimp only
  refine hK.out _ _ ?_ (fun hHeld => ?_)
  · exact L8.keep4 hHeld hb (Nat.le_refl _)
  clear hK K
  try simp only [Act.put, List.setIfInBounds_toArray, List.set_cons_zero, List.set_cons_succ]
  clear hb
  refine wpAnyH_take (i := 4) (v := ?v5) rfl (by kernel_rfl) (by kernel_rfl) (by kernel_rfl) (fun _ _ _ h => h) (Or.inl ⟨by rfl, ?y5⟩) (by assumption) ?r5
  case y5 => (intro w hSw; (try dsimp only at hSw); go_simp; try (with_reducible rfl))
  simp only [List.getElem_toArray, List.getElem_cons_succ, List.getElem_cons_zero, Act.put, List.setIfInBounds_toArray, List.set_cons_zero, List.set_cons_succ]
  refine wpAnyH_ready (rs := [6]) (by kernel_rfl) (by simp) ?_
  refine AllReadyH.cons rfl (fun K hK => ?_) AllReadyH.nil
  simp only [List.getElem_toArray, List.getElem_cons_succ, List.getElem_cons_zero]
  go_simp
  go_at_call 71
  refine (CS.out _ hHeld.2).mono ?_
  rintro e w6 ⟨rfl, hh⟩
  have hh' := hh.symm
  clear hh
  subst hh'
  dsimp only
  refine hK.out _ _ ?_ (fun hHeld => ?_)
  · exact hHeld
  clear hK K
  try simp only [Act.put, List.setIfInBounds_toArray, List.set_cons_zero, List.set_cons_succ]
  refine wpAnyH_take (i := 7) (v := ?v6) rfl (by kernel_rfl) (by kernel_rfl) (by kernel_rfl) (fun _ _ _ h => h) (Or.inl ⟨by rfl, ?y6⟩) (by assumption) ?r6
  case y6 => (intro w hSw; (try dsimp only at hSw); go_simp; try (with_reducible rfl))
  simp only [List.getElem_toArray, List.getElem_cons_succ, List.getElem_cons_zero, Act.put, List.setIfInBounds_toArray, List.set_cons_zero, List.set_cons_succ]
  refine wpAnyH_take (i := 8) (v := ?v7) rfl (by kernel_rfl) (by kernel_rfl) (by kernel_rfl) (fun _ _ _ h => h) (Or.inl ⟨by rfl, ?y7⟩) (by assumption) ?r7
  case y7 => (intro w hSw; (try dsimp only at hSw); go_simp; try (with_reducible rfl))
  simp only [List.getElem_toArray, List.getElem_cons_succ, List.getElem_cons_zero, Act.put, List.setIfInBounds_toArray, List.set_cons_zero, List.set_cons_succ]
  refine wpAnyH_take (i := 9) (v := ?v8) rfl (by kernel_rfl) (by kernel_rfl) (by kernel_rfl) (fun _ _ _ h => h) (Or.inl ⟨by rfl, ?y8⟩) (by assumption) ?r8
  case y8 => (intro w hSw; (try dsimp only at hSw); go_simp; try (with_reducible rfl))
  simp only [List.getElem_toArray, List.getElem_cons_succ, List.getElem_cons_zero, Act.put, List.setIfInBounds_toArray, List.set_cons_zero, List.set_cons_succ]
  refine wpAnyH_take (i := 10) (v := ?v9) rfl (by kernel_rfl) (by kernel_rfl) (by kernel_rfl) (fun _ _ _ h => h) (Or.inl ⟨by rfl, ?y9⟩) (by assumption) ?r9
  case y9 => (intro w hSw; (try dsimp only at hSw); go_simp; try (with_reducible rfl))
  simp only [List.getElem_toArray, List.getElem_cons_succ, List.getElem_cons_zero, Act.put, List.setIfInBounds_toArray, List.set_cons_zero, List.set_cons_succ]
  refine wpAnyH_done (by kernel_rfl) ?_ _
  have BF := hide (B0.out.trans (hHeld.2.mono B0.out.size))
  clear hHeld
  go_wp2
  go_ret2
  exact ⟨rfl, BF.out⟩
end Go.Proofs.Yticgejaaoamhmao.L15H

namespace Go.Proofs.Yticgejaaoamhmao.L15H
open Go.RowKit L1 Own Str
set_option linter.unusedVariables false

/-- A new Heavy. -/
def newH (x : Int) (ok : Bool) : Hv := if ok then ⟨List.replicate x.toNat e0, List.replicate x.toNat 0, 0, 0⟩ else e0H
theorem newH_len (x : Int) (ok : Bool) (hok : ok = true ↔ 1 ≤ x ∧ x ≤ 6) : (newH x ok).nm.length ≤ 6 ∧ (newH x ok).ct.length ≤ 6 := by
  cases ok with
  | false => simp [newH, e0H]
  | true =>
    obtain ⟨h1, h6⟩ := hok.1 rfl
    simp [newH]
    omega
theorem bool_noH {b : Bool} {p : Prop} (h : b = true ↔ p) (hp : ¬ p) : b = false := by
  cases b with
  | true => exact absurd (h.1 rfl) hp
  | false => rfl
theorem own_madeH {w : World} {base g n : Nat} {z : Value} {t : TypeId} (hz : z.cells = #[z]) (h : w.heap[g]? = some (.cells (madeCells z.cells (n * 1)) t (0, 0))) (hb : base ≤ g) (hn : n ≤ maxLen) : w.ownsRow base t 1 (.slice (some ⟨g, 0, none⟩) n n) n (List.replicate n z) := by
  have e : (madeCells z.cells (n * 1)).toList = List.replicate n z := by
    rw [hz, Nat.mul_one, toList_madeCells_one]
  have e2 : (madeCells z.cells (n * 1)).size = n * 1 := size_madeCells _ _
  exact ⟨by simp, .inr ⟨g, n, _, rfl, hb, h, Nat.le_refl _, hn, e2, by rw [e]; simp⟩⟩
theorem mk_names (n : Nat) (h : n ≤ 6) : ∃ OA : Obj, (∀ w : World, (w.alloc OA).ownsRow w.heap.size 9 1 (.slice (some ⟨w.heap.size, 0, none⟩) n n) n (mapS (List.replicate n e0))) ∧ ∀ w, (Instr.makeSlice 22 (.int .i64 (n : Int)) (.int .i64 (n : Int))).run Try.prog w = .ok (.slice (some ⟨w.heap.size, 0, none⟩) n n) (w.alloc OA) := by
  obtain ⟨i0, hi, hz0, hz1, hz2⟩ := info_parts info_strS
  refine ⟨.cells (madeCells (Value.string ByteArray.empty).cells (n * 1)) 9 (0, 0), fun w => ?_, fun w => ?_⟩
  · have := own_madeH (w := w.alloc (.cells (madeCells (Value.string ByteArray.empty).cells (n * 1)) 9 (0, 0))) (base := w.heap.size) (g := w.heap.size) (n := n) (z := .string ByteArray.empty) (t := 9) rfl (L8.blk_new w _) (Nat.le_refl _) (by unfold maxLen; omega)
    simpa [mapS] using this
  · have hr := run_make (P := Try.prog) w 22 9 i0 (.string ByteArray.empty) Try.underlying22 hi hz0 .i64 .i64 (n : Int) (n : Int) (by omega) (Int.le_refl _) (by rw [hz2]; omega) (by omega)
    simp only [Int.toNat_natCast, hz1] at hr
    exact hr
theorem mk_counts (n : Nat) (h : n ≤ 6) : ∃ OA : Obj, (∀ w : World, (w.alloc OA).ownsRow w.heap.size 3 1 (.slice (some ⟨w.heap.size, 0, none⟩) n n) n (ints (List.replicate n 0))) ∧ ∀ w, (Instr.makeSlice 23 (.int .i64 (n : Int)) (.int .i64 (n : Int))).run Try.prog w = .ok (.slice (some ⟨w.heap.size, 0, none⟩) n n) (w.alloc OA) := by
  obtain ⟨i0, hi, hz0, hz1, hz2⟩ := info_parts info_int
  refine ⟨.cells (madeCells (Value.int .i64 0).cells (n * 1)) 3 (0, 0), fun w => ?_, fun w => ?_⟩
  · have := own_madeH (w := w.alloc (.cells (madeCells (Value.int .i64 0).cells (n * 1)) 3 (0, 0))) (base := w.heap.size) (g := w.heap.size) (n := n) (z := .int .i64 0) (t := 3) rfl (L8.blk_new w _) (Nat.le_refl _) (by unfold maxLen; omega)
    simpa [ints] using this
  · have hr := run_make (P := Try.prog) w 23 3 i0 (.int .i64 0) Try.underlying23 hi hz0 .i64 .i64 (n : Int) (n : Int) (by omega) (Int.le_refl _) (by rw [hz2]; omega) (by omega)
    simp only [Int.toNat_natCast, hz1] at hr
    exact hr
set_option maxRecDepth 100000 in
set_option maxHeartbeats 400000 in
theorem isPlaceCount_any (n : Int) (w : World) (b : Bool) (hb : b = true ↔ 1 ≤ n ∧ n ≤ 6) :
    Calls Try.prog 66 #[.int .i64 n] w fun e w' => e = .returned (.bool b) ∧ w = w' := by
  by_cases h1 : n ≥ 1
  · by_cases h2 : n ≤ 6
    · obtain rfl : b = true := hb.2 ⟨h1, h2⟩
      clear hb
      go_enter Try.func66, Try.ntmps66
      go_wp2
      go_ret
      exact ⟨rfl, rfl⟩
    · obtain rfl : b = false := bool_noH hb (fun h => h2 h.2)
      clear hb
      go_enter Try.func66, Try.ntmps66
      go_wp2
      go_ret
      exact ⟨rfl, rfl⟩
  · obtain rfl : b = false := bool_noH hb (fun h => h1 h.1)
    clear hb
    go_enter Try.func66, Try.ntmps66
    go_wp2
    go_ret
    exact ⟨rfl, rfl⟩
set_option maxRecDepth 100000 in
set_option maxHeartbeats 4000000 in
theorem specNewHeavy_any (x : Int) (w : World) (ok : Bool) (hok : ok = true ↔ 1 ≤ x ∧ x ≤ 6) (h : Hv) (hh : h = newH x ok) :
    Calls Try.prog 51 #[.int .i64 x] w fun e w' => ∃ v u, e = .returned (.tuple #[hvV v u h.g h.t, .bool ok]) ∧ RH w w' v u h := by
  have C := hide (fun w => l1In_any x 1 6 w ok hok)
  cases ok with
  | false =>
    obtain rfl : h = e0H := hh
    have HB := hide (rh_nil ((Below.refl w.heap.size w).alloc (Nat.le_refl _) (hvO (.slice none 0 0) (.slice none 0 0) 0 0)))
    clear hok
    go_enter Try.func51, Try.ntmps51
    go_wp2_with fail
    refine (C.out _).mono ?_
    rintro e w1 ⟨rfl, rfl⟩
    go_wp2
    refine bodyPost_ret (v := .tuple #[hvV (.slice none 0 0) (.slice none 0 0) 0 0, .bool false]) (by simp [results, Try.f51, go_sem]) rfl ⟨_, _, rfl, HB.out⟩
  | true =>
  obtain ⟨h1, h6⟩ := hok.1 rfl
  obtain ⟨n, rfl⟩ : ∃ n : Nat, x = (n : Int) := ⟨x.toNat, by omega⟩
  obtain rfl : h = ⟨List.replicate n e0, List.replicate n 0, 0, 0⟩ := by rw [hh]; simp [newH]
  clear hok hh
  obtain ⟨OA, hOA, HMA⟩ := mk_names n (by omega)
  obtain ⟨OB, hOB, HMB⟩ := mk_counts n (by omega)
  have HOA := hide hOA
  have HOB := hide hOB
  clear hOA hOB
  have BX := (Below.refl w.heap.size w).alloc (Nat.le_refl _) (hvO (.slice none 0 0) (.slice none 0 0) 0 0)
  have g0 := L8.blk_new w (hvO (.slice none 0 0) (.slice none 0 0) 0 0)
  have ez : (w.alloc (hvO (.slice none 0 0) (.slice none 0 0) 0 0)).heap.size = w.heap.size + 1 := by simp
  obtain ⟨W0, hW0⟩ : ∃ W0, W0 = w.alloc (hvO (.slice none 0 0) (.slice none 0 0) 0 0) := ⟨_, rfl⟩
  rw [← hW0] at BX g0 ez
  have HW := hide hW0
  have BQ := hide BX
  have ZP := hide g0
  have EZ := hide ez
  clear hW0 BX g0 ez
  go_enter Try.func51, Try.ntmps51
  go_wp2_with fail
  refine (C.out _).mono ?_
  rintro e w1 ⟨rfl, rfl⟩
  go_upto_region 3 with fail
  rw [show w.alloc (.cells #[.slice none 0 0, .slice none 0 0, .int .i64 0, .int .i64 0] 27) = W0 from HW.out.symm]
  refine wp_region_held_drew (S := fun _ => True) (by kernel_rfl) trivial (fun hHeld => ?_)
  refine wpAnyH_take (i := 0) (v := ?v1) rfl (by kernel_rfl) (by kernel_rfl) (by kernel_rfl) (fun _ _ _ h => h) (Or.inl ⟨by rfl, ?y1⟩) (by assumption) ?r1
  case y1 => (intro w hSw; (try dsimp only at hSw); go_simp; try (with_reducible rfl))
  simp only [List.getElem_toArray, List.getElem_cons_zero, Act.put, List.setIfInBounds_toArray, List.set_cons_zero, List.set_cons_succ]
  refine wpAnyH_take (i := 2) (v := ?v2) rfl (by kernel_rfl) (by kernel_rfl) (by kernel_rfl) (fun _ _ _ h => h) (Or.inl ⟨by rfl, ?y2⟩) (by assumption) ?r2
  case y2 => (intro w hSw; (try dsimp only at hSw); go_simp; try (with_reducible rfl))
  simp only [List.getElem_toArray, List.getElem_cons_succ, List.getElem_cons_zero, Act.put, List.setIfInBounds_toArray, List.set_cons_zero, List.set_cons_succ]
  refine wpAnyH_ready (rs := [1, 3]) (by kernel_rfl) (by simp) ?_
  refine AllReadyH.cons rfl (fun K hK => ?_) (AllReadyH.cons rfl (fun K hK => ?_) AllReadyH.nil)
  · simp only [List.getElem_toArray, List.getElem_cons_succ, List.getElem_cons_zero]
    go_simp
    obtain ⟨wa, hwa⟩ : ∃ x, (W0.alloc OA).drew = x := ⟨_, rfl⟩
    have Ewa := hide (show Below W0.heap.size W0 wa by rw [← hwa]; exact ((Below.refl _ _).alloc (Nat.le_refl _) _).drew)
    have ON := hide (show wa.ownsRow W0.heap.size 9 1 (.slice (some ⟨W0.heap.size, 0, none⟩) n n) n (mapS (List.replicate n e0)) by rw [← hwa]; exact HOA.out W0)
    rw [hwa]
    refine hK.out _ _ ?_ (fun hHeld => ?_)
    · trivial
    clear hK K hwa
    try simp only [Act.put, List.setIfInBounds_toArray, List.set_cons_zero, List.set_cons_succ]
    refine wpAnyH_ready (rs := [3]) (by kernel_rfl) (by simp) ?_
    refine AllReadyH.cons rfl (fun K hK => ?_) AllReadyH.nil
    simp only [List.getElem_toArray, List.getElem_cons_succ, List.getElem_cons_zero]
    go_simp
    obtain ⟨wb, hwb⟩ : ∃ x, wa.alloc OB = x := ⟨_, rfl⟩
    have Ewb := hide (show Below wa.heap.size wa wb by rw [← hwb]; exact ((Below.refl _ _).alloc (Nat.le_refl _) _))
    have OC := hide (show wb.ownsRow wa.heap.size 3 1 (.slice (some ⟨wa.heap.size, 0, none⟩) n n) n (ints (List.replicate n 0)) by rw [← hwb]; exact HOB.out wa)
    rw [hwb]
    refine hK.out _ _ ?_ (fun hHeld => ?_)
    · trivial
    clear hK K hwb
    try simp only [Act.put, List.setIfInBounds_toArray, List.set_cons_zero, List.set_cons_succ]
    have EE := hide (show Below W0.heap.size W0 wb from Ewa.out.trans (Ewb.out.mono Ewa.out.size))
    have OO := hide (OwH.mk (w := wb) (base := w.heap.size + 1) (h := (⟨List.replicate n e0, List.replicate n 0, 0, 0⟩ : Hv)) (n := n) (m := n) (own_baseS (own_belO ON.out Ewb.out) (by have := EZ.out; omega)) (own_baseS OC.out (by have h1 := EZ.out; have h2 := Ewa.out.size; omega)))
    refine wpAnyH_take (i := 4) (v := ?v3) rfl (by kernel_rfl) (by kernel_rfl) (by kernel_rfl) (fun _ _ _ h => h) (Or.inl ⟨by rfl, ?y3⟩) (by assumption) ?r3
    case y3 => (intro w hSw; (try dsimp only at hSw); go_simp; try (with_reducible rfl))
    simp only [List.getElem_toArray, List.getElem_cons_succ, List.getElem_cons_zero, Act.put, List.setIfInBounds_toArray, List.set_cons_zero, List.set_cons_succ]
    refine wpAnyH_ready (rs := [5]) (by kernel_rfl) (by simp) ?_
    refine AllReadyH.cons rfl (fun K hK => ?_) AllReadyH.nil
    simp only [List.getElem_toArray, List.getElem_cons_succ, List.getElem_cons_zero]
    have R2 := blk_kept ZP.out (show Below W0.heap.size W0 wb from EE.out)
    obtain ⟨y0, y1, y2, y3⟩ := blk4 R2
    obtain ⟨f0, f1, f2, f3⟩ := frz4 R2
    have R3 := hide (set4 (a' := (.slice (some ⟨W0.heap.size, 0, none⟩) n n)) (b' := (.slice (some ⟨wa.heap.size, 0, none⟩) n n)) (c' := .int .i64 0) (d' := .int .i64 0) R2)
    have O9 := hide (OO.out.setC4 w.heap.size (by have := EZ.out; omega) (.slice (some ⟨W0.heap.size, 0, none⟩) n n) (.slice (some ⟨wa.heap.size, 0, none⟩) n n) (.int .i64 0) (.int .i64 0))
    have B9 := hide (below4 (BQ.out.trans (EE.out.mono BQ.out.size)) w.heap.size (Nat.le_refl _) (.slice (some ⟨W0.heap.size, 0, none⟩) n n) (.slice (some ⟨wa.heap.size, 0, none⟩) n n) (.int .i64 0) (.int .i64 0))
    clear R2
    go_simp
    refine hK.out _ _ ?_ (fun hHeld => ?_)
    · trivial
    clear hK K y0 y1 y2 y3 f0 f1 f2 f3
    try simp only [Act.put, List.setIfInBounds_toArray, List.set_cons_zero, List.set_cons_succ]
    refine wpAnyH_take (i := 6) (v := ?v4) rfl (by kernel_rfl) (by kernel_rfl) (by kernel_rfl) (fun _ _ _ h => h) (Or.inl ⟨by rfl, ?y4⟩) (by assumption) ?r4
    case y4 => (intro w hSw; (try dsimp only at hSw); go_simp; try (with_reducible rfl))
    simp only [List.getElem_toArray, List.getElem_cons_succ, List.getElem_cons_zero, Act.put, List.setIfInBounds_toArray, List.set_cons_zero, List.set_cons_succ]
    refine wpAnyH_done (by kernel_rfl) ?_ _
    clear hHeld
    obtain ⟨d0, d1, d2, d3⟩ := blk4 R3.out
    go_wp2
    refine bodyPost_ret (v := .tuple #[hvV (.slice (some ⟨W0.heap.size, 0, none⟩) n n) (.slice (some ⟨wa.heap.size, 0, none⟩) n n) 0 0, .bool true]) (by simp [results, Try.f51, go_sem, d0, d1, d2, d3]) rfl ⟨_, _, rfl, ⟨?_, B9.out⟩⟩
    rw [show (⟨List.replicate n e0, List.replicate n 0, 0, 0⟩ : Hv).nm.length = n by simp, show (⟨List.replicate n e0, List.replicate n 0, 0, 0⟩ : Hv).ct.length = n by simp]
    exact O9.out.toBase (by omega)
  · simp only [List.getElem_toArray, List.getElem_cons_succ, List.getElem_cons_zero]
    go_simp
    obtain ⟨wa, hwa⟩ : ∃ x, (W0.alloc OB).drew = x := ⟨_, rfl⟩
    have Ewa := hide (show Below W0.heap.size W0 wa by rw [← hwa]; exact ((Below.refl _ _).alloc (Nat.le_refl _) _).drew)
    have OC := hide (show wa.ownsRow W0.heap.size 3 1 (.slice (some ⟨W0.heap.size, 0, none⟩) n n) n (ints (List.replicate n 0)) by rw [← hwa]; exact HOB.out W0)
    rw [hwa]
    refine hK.out _ _ ?_ (fun hHeld => ?_)
    · trivial
    clear hK K hwa
    try simp only [Act.put, List.setIfInBounds_toArray, List.set_cons_zero, List.set_cons_succ]
    refine wpAnyH_ready (rs := [1]) (by kernel_rfl) (by simp) ?_
    refine AllReadyH.cons rfl (fun K hK => ?_) AllReadyH.nil
    simp only [List.getElem_toArray, List.getElem_cons_succ, List.getElem_cons_zero]
    go_simp
    obtain ⟨wb, hwb⟩ : ∃ x, wa.alloc OA = x := ⟨_, rfl⟩
    have Ewb := hide (show Below wa.heap.size wa wb by rw [← hwb]; exact ((Below.refl _ _).alloc (Nat.le_refl _) _))
    have ON := hide (show wb.ownsRow wa.heap.size 9 1 (.slice (some ⟨wa.heap.size, 0, none⟩) n n) n (mapS (List.replicate n e0)) by rw [← hwb]; exact HOA.out wa)
    rw [hwb]
    refine hK.out _ _ ?_ (fun hHeld => ?_)
    · trivial
    clear hK K hwb
    try simp only [Act.put, List.setIfInBounds_toArray, List.set_cons_zero, List.set_cons_succ]
    have EE := hide (show Below W0.heap.size W0 wb from Ewa.out.trans (Ewb.out.mono Ewa.out.size))
    have OO := hide (OwH.mk (w := wb) (base := w.heap.size + 1) (h := (⟨List.replicate n e0, List.replicate n 0, 0, 0⟩ : Hv)) (n := n) (m := n) (own_baseS ON.out (by have h1 := EZ.out; have h2 := Ewa.out.size; omega)) (own_baseS (own_belO OC.out Ewb.out) (by have := EZ.out; omega)))
    refine wpAnyH_take (i := 4) (v := ?v5) rfl (by kernel_rfl) (by kernel_rfl) (by kernel_rfl) (fun _ _ _ h => h) (Or.inl ⟨by rfl, ?y5⟩) (by assumption) ?r5
    case y5 => (intro w hSw; (try dsimp only at hSw); go_simp; try (with_reducible rfl))
    simp only [List.getElem_toArray, List.getElem_cons_succ, List.getElem_cons_zero, Act.put, List.setIfInBounds_toArray, List.set_cons_zero, List.set_cons_succ]
    refine wpAnyH_ready (rs := [5]) (by kernel_rfl) (by simp) ?_
    refine AllReadyH.cons rfl (fun K hK => ?_) AllReadyH.nil
    simp only [List.getElem_toArray, List.getElem_cons_succ, List.getElem_cons_zero]
    have R2 := blk_kept ZP.out (show Below W0.heap.size W0 wb from EE.out)
    obtain ⟨y0, y1, y2, y3⟩ := blk4 R2
    obtain ⟨f0, f1, f2, f3⟩ := frz4 R2
    have R3 := hide (set4 (a' := (.slice (some ⟨wa.heap.size, 0, none⟩) n n)) (b' := (.slice (some ⟨W0.heap.size, 0, none⟩) n n)) (c' := .int .i64 0) (d' := .int .i64 0) R2)
    have O9 := hide (OO.out.setC4 w.heap.size (by have := EZ.out; omega) (.slice (some ⟨wa.heap.size, 0, none⟩) n n) (.slice (some ⟨W0.heap.size, 0, none⟩) n n) (.int .i64 0) (.int .i64 0))
    have B9 := hide (below4 (BQ.out.trans (EE.out.mono BQ.out.size)) w.heap.size (Nat.le_refl _) (.slice (some ⟨wa.heap.size, 0, none⟩) n n) (.slice (some ⟨W0.heap.size, 0, none⟩) n n) (.int .i64 0) (.int .i64 0))
    clear R2
    go_simp
    refine hK.out _ _ ?_ (fun hHeld => ?_)
    · trivial
    clear hK K y0 y1 y2 y3 f0 f1 f2 f3
    try simp only [Act.put, List.setIfInBounds_toArray, List.set_cons_zero, List.set_cons_succ]
    refine wpAnyH_take (i := 6) (v := ?v6) rfl (by kernel_rfl) (by kernel_rfl) (by kernel_rfl) (fun _ _ _ h => h) (Or.inl ⟨by rfl, ?y6⟩) (by assumption) ?r6
    case y6 => (intro w hSw; (try dsimp only at hSw); go_simp; try (with_reducible rfl))
    simp only [List.getElem_toArray, List.getElem_cons_succ, List.getElem_cons_zero, Act.put, List.setIfInBounds_toArray, List.set_cons_zero, List.set_cons_succ]
    refine wpAnyH_done (by kernel_rfl) ?_ _
    clear hHeld
    obtain ⟨d0, d1, d2, d3⟩ := blk4 R3.out
    go_wp2
    refine bodyPost_ret (v := .tuple #[hvV (.slice (some ⟨wa.heap.size, 0, none⟩) n n) (.slice (some ⟨W0.heap.size, 0, none⟩) n n) 0 0, .bool true]) (by simp [results, Try.f51, go_sem, d0, d1, d2, d3]) rfl ⟨_, _, rfl, ⟨?_, B9.out⟩⟩
    rw [show (⟨List.replicate n e0, List.replicate n 0, 0, 0⟩ : Hv).nm.length = n by simp, show (⟨List.replicate n e0, List.replicate n 0, 0, 0⟩ : Hv).ct.length = n by simp]
    exact O9.out.toBase (by omega)
set_option maxRecDepth 100000 in
set_option maxHeartbeats 4000000 in
theorem implNewHeavy_any (x : Int) (w : World) (ok : Bool) (hok : ok = true ↔ 1 ≤ x ∧ x ≤ 6) (h : Hv) (hh : h = newH x ok) :
    Calls Try.prog 52 #[.int .i64 x] w fun e w' => ∃ v u, e = .returned (.tuple #[hvV v u h.g h.t, .bool ok]) ∧ RH w w' v u h := by
  have C := hide (fun w => isPlaceCount_any x w ok hok)
  cases ok with
  | false =>
    obtain rfl : h = e0H := hh
    have HB := hide (rh_nil ((Below.refl w.heap.size w).alloc (Nat.le_refl _) (hvO (.slice none 0 0) (.slice none 0 0) 0 0)))
    clear hok
    go_enter Try.func52, Try.ntmps52
    go_wp2_with fail
    refine (C.out _).mono ?_
    rintro e w1 ⟨rfl, rfl⟩
    go_wp2
    refine bodyPost_ret (v := .tuple #[hvV (.slice none 0 0) (.slice none 0 0) 0 0, .bool false]) (by simp [results, Try.f52, go_sem]) rfl ⟨_, _, rfl, HB.out⟩
  | true =>
  obtain ⟨h1, h6⟩ := hok.1 rfl
  obtain ⟨n, rfl⟩ : ∃ n : Nat, x = (n : Int) := ⟨x.toNat, by omega⟩
  obtain rfl : h = ⟨List.replicate n e0, List.replicate n 0, 0, 0⟩ := by rw [hh]; simp [newH]
  clear hok hh
  obtain ⟨OA, hOA, HMA⟩ := mk_names n (by omega)
  obtain ⟨OB, hOB, HMB⟩ := mk_counts n (by omega)
  have HOA := hide hOA
  have HOB := hide hOB
  clear hOA hOB
  have BX := (Below.refl w.heap.size w).alloc (Nat.le_refl _) (hvO (.slice none 0 0) (.slice none 0 0) 0 0)
  have g0 := L8.blk_new w (hvO (.slice none 0 0) (.slice none 0 0) 0 0)
  have ez : (w.alloc (hvO (.slice none 0 0) (.slice none 0 0) 0 0)).heap.size = w.heap.size + 1 := by simp
  obtain ⟨W0, hW0⟩ : ∃ W0, W0 = w.alloc (hvO (.slice none 0 0) (.slice none 0 0) 0 0) := ⟨_, rfl⟩
  rw [← hW0] at BX g0 ez
  have HW := hide hW0
  have BQ := hide BX
  have ZP := hide g0
  have EZ := hide ez
  clear hW0 BX g0 ez
  go_enter Try.func52, Try.ntmps52
  go_wp2_with fail
  refine (C.out _).mono ?_
  rintro e w1 ⟨rfl, rfl⟩
  go_upto_region 3 with fail
  rw [show w.alloc (.cells #[.slice none 0 0, .slice none 0 0, .int .i64 0, .int .i64 0] 27) = W0 from HW.out.symm]
  refine wp_region_held_drew (S := fun _ => True) (by kernel_rfl) trivial (fun hHeld => ?_)
  refine wpAnyH_take (i := 0) (v := ?v7) rfl (by kernel_rfl) (by kernel_rfl) (by kernel_rfl) (fun _ _ _ h => h) (Or.inl ⟨by rfl, ?y7⟩) (by assumption) ?r7
  case y7 => (intro w hSw; (try dsimp only at hSw); go_simp; try (with_reducible rfl))
  simp only [List.getElem_toArray, List.getElem_cons_zero, Act.put, List.setIfInBounds_toArray, List.set_cons_zero, List.set_cons_succ]
  refine wpAnyH_take (i := 2) (v := ?v8) rfl (by kernel_rfl) (by kernel_rfl) (by kernel_rfl) (fun _ _ _ h => h) (Or.inl ⟨by rfl, ?y8⟩) (by assumption) ?r8
  case y8 => (intro w hSw; (try dsimp only at hSw); go_simp; try (with_reducible rfl))
  simp only [List.getElem_toArray, List.getElem_cons_succ, List.getElem_cons_zero, Act.put, List.setIfInBounds_toArray, List.set_cons_zero, List.set_cons_succ]
  refine wpAnyH_ready (rs := [1, 3]) (by kernel_rfl) (by simp) ?_
  refine AllReadyH.cons rfl (fun K hK => ?_) (AllReadyH.cons rfl (fun K hK => ?_) AllReadyH.nil)
  · simp only [List.getElem_toArray, List.getElem_cons_succ, List.getElem_cons_zero]
    go_simp
    obtain ⟨wa, hwa⟩ : ∃ x, (W0.alloc OA).drew = x := ⟨_, rfl⟩
    have Ewa := hide (show Below W0.heap.size W0 wa by rw [← hwa]; exact ((Below.refl _ _).alloc (Nat.le_refl _) _).drew)
    have ON := hide (show wa.ownsRow W0.heap.size 9 1 (.slice (some ⟨W0.heap.size, 0, none⟩) n n) n (mapS (List.replicate n e0)) by rw [← hwa]; exact HOA.out W0)
    rw [hwa]
    refine hK.out _ _ ?_ (fun hHeld => ?_)
    · trivial
    clear hK K hwa
    try simp only [Act.put, List.setIfInBounds_toArray, List.set_cons_zero, List.set_cons_succ]
    refine wpAnyH_ready (rs := [3]) (by kernel_rfl) (by simp) ?_
    refine AllReadyH.cons rfl (fun K hK => ?_) AllReadyH.nil
    simp only [List.getElem_toArray, List.getElem_cons_succ, List.getElem_cons_zero]
    go_simp
    obtain ⟨wb, hwb⟩ : ∃ x, wa.alloc OB = x := ⟨_, rfl⟩
    have Ewb := hide (show Below wa.heap.size wa wb by rw [← hwb]; exact ((Below.refl _ _).alloc (Nat.le_refl _) _))
    have OC := hide (show wb.ownsRow wa.heap.size 3 1 (.slice (some ⟨wa.heap.size, 0, none⟩) n n) n (ints (List.replicate n 0)) by rw [← hwb]; exact HOB.out wa)
    rw [hwb]
    refine hK.out _ _ ?_ (fun hHeld => ?_)
    · trivial
    clear hK K hwb
    try simp only [Act.put, List.setIfInBounds_toArray, List.set_cons_zero, List.set_cons_succ]
    have EE := hide (show Below W0.heap.size W0 wb from Ewa.out.trans (Ewb.out.mono Ewa.out.size))
    have OO := hide (OwH.mk (w := wb) (base := w.heap.size + 1) (h := (⟨List.replicate n e0, List.replicate n 0, 0, 0⟩ : Hv)) (n := n) (m := n) (own_baseS (own_belO ON.out Ewb.out) (by have := EZ.out; omega)) (own_baseS OC.out (by have h1 := EZ.out; have h2 := Ewa.out.size; omega)))
    refine wpAnyH_take (i := 4) (v := ?v9) rfl (by kernel_rfl) (by kernel_rfl) (by kernel_rfl) (fun _ _ _ h => h) (Or.inl ⟨by rfl, ?y9⟩) (by assumption) ?r9
    case y9 => (intro w hSw; (try dsimp only at hSw); go_simp; try (with_reducible rfl))
    simp only [List.getElem_toArray, List.getElem_cons_succ, List.getElem_cons_zero, Act.put, List.setIfInBounds_toArray, List.set_cons_zero, List.set_cons_succ]
    refine wpAnyH_ready (rs := [5]) (by kernel_rfl) (by simp) ?_
    refine AllReadyH.cons rfl (fun K hK => ?_) AllReadyH.nil
    simp only [List.getElem_toArray, List.getElem_cons_succ, List.getElem_cons_zero]
    have R2 := blk_kept ZP.out (show Below W0.heap.size W0 wb from EE.out)
    obtain ⟨y0, y1, y2, y3⟩ := blk4 R2
    obtain ⟨f0, f1, f2, f3⟩ := frz4 R2
    have R3 := hide (set4 (a' := (.slice (some ⟨W0.heap.size, 0, none⟩) n n)) (b' := (.slice (some ⟨wa.heap.size, 0, none⟩) n n)) (c' := .int .i64 0) (d' := .int .i64 0) R2)
    have O9 := hide (OO.out.setC4 w.heap.size (by have := EZ.out; omega) (.slice (some ⟨W0.heap.size, 0, none⟩) n n) (.slice (some ⟨wa.heap.size, 0, none⟩) n n) (.int .i64 0) (.int .i64 0))
    have B9 := hide (below4 (BQ.out.trans (EE.out.mono BQ.out.size)) w.heap.size (Nat.le_refl _) (.slice (some ⟨W0.heap.size, 0, none⟩) n n) (.slice (some ⟨wa.heap.size, 0, none⟩) n n) (.int .i64 0) (.int .i64 0))
    clear R2
    go_simp
    refine hK.out _ _ ?_ (fun hHeld => ?_)
    · trivial
    clear hK K y0 y1 y2 y3 f0 f1 f2 f3
    try simp only [Act.put, List.setIfInBounds_toArray, List.set_cons_zero, List.set_cons_succ]
    refine wpAnyH_take (i := 6) (v := ?v10) rfl (by kernel_rfl) (by kernel_rfl) (by kernel_rfl) (fun _ _ _ h => h) (Or.inl ⟨by rfl, ?y10⟩) (by assumption) ?r10
    case y10 => (intro w hSw; (try dsimp only at hSw); go_simp; try (with_reducible rfl))
    simp only [List.getElem_toArray, List.getElem_cons_succ, List.getElem_cons_zero, Act.put, List.setIfInBounds_toArray, List.set_cons_zero, List.set_cons_succ]
    refine wpAnyH_done (by kernel_rfl) ?_ _
    clear hHeld
    obtain ⟨d0, d1, d2, d3⟩ := blk4 R3.out
    go_wp2
    refine bodyPost_ret (v := .tuple #[hvV (.slice (some ⟨W0.heap.size, 0, none⟩) n n) (.slice (some ⟨wa.heap.size, 0, none⟩) n n) 0 0, .bool true]) (by simp [results, Try.f52, go_sem, d0, d1, d2, d3]) rfl ⟨_, _, rfl, ⟨?_, B9.out⟩⟩
    rw [show (⟨List.replicate n e0, List.replicate n 0, 0, 0⟩ : Hv).nm.length = n by simp, show (⟨List.replicate n e0, List.replicate n 0, 0, 0⟩ : Hv).ct.length = n by simp]
    exact O9.out.toBase (by omega)
  · simp only [List.getElem_toArray, List.getElem_cons_succ, List.getElem_cons_zero]
    go_simp
    obtain ⟨wa, hwa⟩ : ∃ x, (W0.alloc OB).drew = x := ⟨_, rfl⟩
    have Ewa := hide (show Below W0.heap.size W0 wa by rw [← hwa]; exact ((Below.refl _ _).alloc (Nat.le_refl _) _).drew)
    have OC := hide (show wa.ownsRow W0.heap.size 3 1 (.slice (some ⟨W0.heap.size, 0, none⟩) n n) n (ints (List.replicate n 0)) by rw [← hwa]; exact HOB.out W0)
    rw [hwa]
    refine hK.out _ _ ?_ (fun hHeld => ?_)
    · trivial
    clear hK K hwa
    try simp only [Act.put, List.setIfInBounds_toArray, List.set_cons_zero, List.set_cons_succ]
    refine wpAnyH_ready (rs := [1]) (by kernel_rfl) (by simp) ?_
    refine AllReadyH.cons rfl (fun K hK => ?_) AllReadyH.nil
    simp only [List.getElem_toArray, List.getElem_cons_succ, List.getElem_cons_zero]
    go_simp
    obtain ⟨wb, hwb⟩ : ∃ x, wa.alloc OA = x := ⟨_, rfl⟩
    have Ewb := hide (show Below wa.heap.size wa wb by rw [← hwb]; exact ((Below.refl _ _).alloc (Nat.le_refl _) _))
    have ON := hide (show wb.ownsRow wa.heap.size 9 1 (.slice (some ⟨wa.heap.size, 0, none⟩) n n) n (mapS (List.replicate n e0)) by rw [← hwb]; exact HOA.out wa)
    rw [hwb]
    refine hK.out _ _ ?_ (fun hHeld => ?_)
    · trivial
    clear hK K hwb
    try simp only [Act.put, List.setIfInBounds_toArray, List.set_cons_zero, List.set_cons_succ]
    have EE := hide (show Below W0.heap.size W0 wb from Ewa.out.trans (Ewb.out.mono Ewa.out.size))
    have OO := hide (OwH.mk (w := wb) (base := w.heap.size + 1) (h := (⟨List.replicate n e0, List.replicate n 0, 0, 0⟩ : Hv)) (n := n) (m := n) (own_baseS ON.out (by have h1 := EZ.out; have h2 := Ewa.out.size; omega)) (own_baseS (own_belO OC.out Ewb.out) (by have := EZ.out; omega)))
    refine wpAnyH_take (i := 4) (v := ?v11) rfl (by kernel_rfl) (by kernel_rfl) (by kernel_rfl) (fun _ _ _ h => h) (Or.inl ⟨by rfl, ?y11⟩) (by assumption) ?r11
    case y11 => (intro w hSw; (try dsimp only at hSw); go_simp; try (with_reducible rfl))
    simp only [List.getElem_toArray, List.getElem_cons_succ, List.getElem_cons_zero, Act.put, List.setIfInBounds_toArray, List.set_cons_zero, List.set_cons_succ]
    refine wpAnyH_ready (rs := [5]) (by kernel_rfl) (by simp) ?_
    refine AllReadyH.cons rfl (fun K hK => ?_) AllReadyH.nil
    simp only [List.getElem_toArray, List.getElem_cons_succ, List.getElem_cons_zero]
    have R2 := blk_kept ZP.out (show Below W0.heap.size W0 wb from EE.out)
    obtain ⟨y0, y1, y2, y3⟩ := blk4 R2
    obtain ⟨f0, f1, f2, f3⟩ := frz4 R2
    have R3 := hide (set4 (a' := (.slice (some ⟨wa.heap.size, 0, none⟩) n n)) (b' := (.slice (some ⟨W0.heap.size, 0, none⟩) n n)) (c' := .int .i64 0) (d' := .int .i64 0) R2)
    have O9 := hide (OO.out.setC4 w.heap.size (by have := EZ.out; omega) (.slice (some ⟨wa.heap.size, 0, none⟩) n n) (.slice (some ⟨W0.heap.size, 0, none⟩) n n) (.int .i64 0) (.int .i64 0))
    have B9 := hide (below4 (BQ.out.trans (EE.out.mono BQ.out.size)) w.heap.size (Nat.le_refl _) (.slice (some ⟨wa.heap.size, 0, none⟩) n n) (.slice (some ⟨W0.heap.size, 0, none⟩) n n) (.int .i64 0) (.int .i64 0))
    clear R2
    go_simp
    refine hK.out _ _ ?_ (fun hHeld => ?_)
    · trivial
    clear hK K y0 y1 y2 y3 f0 f1 f2 f3
    try simp only [Act.put, List.setIfInBounds_toArray, List.set_cons_zero, List.set_cons_succ]
    refine wpAnyH_take (i := 6) (v := ?v12) rfl (by kernel_rfl) (by kernel_rfl) (by kernel_rfl) (fun _ _ _ h => h) (Or.inl ⟨by rfl, ?y12⟩) (by assumption) ?r12
    case y12 => (intro w hSw; (try dsimp only at hSw); go_simp; try (with_reducible rfl))
    simp only [List.getElem_toArray, List.getElem_cons_succ, List.getElem_cons_zero, Act.put, List.setIfInBounds_toArray, List.set_cons_zero, List.set_cons_succ]
    refine wpAnyH_done (by kernel_rfl) ?_ _
    clear hHeld
    obtain ⟨d0, d1, d2, d3⟩ := blk4 R3.out
    go_wp2
    refine bodyPost_ret (v := .tuple #[hvV (.slice (some ⟨wa.heap.size, 0, none⟩) n n) (.slice (some ⟨W0.heap.size, 0, none⟩) n n) 0 0, .bool true]) (by simp [results, Try.f52, go_sem, d0, d1, d2, d3]) rfl ⟨_, _, rfl, ⟨?_, B9.out⟩⟩
    rw [show (⟨List.replicate n e0, List.replicate n 0, 0, 0⟩ : Hv).nm.length = n by simp, show (⟨List.replicate n e0, List.replicate n 0, 0, 0⟩ : Hv).ct.length = n by simp]
    exact O9.out.toBase (by omega)
end Go.Proofs.Yticgejaaoamhmao.L15H

namespace Go.Proofs.Yticgejaaoamhmao.L15H
open Go.RowKit L1 Own Str
set_option linter.unusedVariables false

set_option maxRecDepth 100000 in
set_option maxHeartbeats 8000000 in
theorem goodHeavy_any (a : Option Addr) (n c : Nat) (b : Option Addr) (m d : Nat) (G T : Int) (h : Hv) (w : World) (hf : HF w a b n m h) (hg : h.g = G) (ht : h.t = T) (hn2 : n ≤ 1048576) (hm2 : m ≤ 1048576) (htx : ∀ i, i < h.nm.length → (h.nm.getD i e0).size ≤ 1048576) (bb : Bool) (hbb : bb = true ↔ GoodHv h n m) :
    Calls Try.prog 39 #[.agg #[.slice a n c, .slice b m d, .int .i64 G, .int .i64 T]] w fun e w' => e = .returned (.bool bb) ∧ Below w.heap.size w w' := by
  have BX := (Below.refl w.heap.size w).alloc (Nat.le_refl _) (hvO (.slice a n c) (.slice b m d) G T)
  have g0 := L8.blk_new w (hvO (.slice a n c) (.slice b m d) G T)
  obtain ⟨W0, hW0⟩ : ∃ W0, W0 = w.alloc (hvO (.slice a n c) (.slice b m d) G T) := ⟨_, rfl⟩
  rw [← hW0] at BX g0
  obtain ⟨k0, k1, k2, k3⟩ := blk4 g0
  have HW := hide hW0
  have B0 := hide BX
  have G0 := hide g0
  have F0 := hide (hf.below BX)
  have HBB := hide hbb
  have HTX := hide htx
  have HG := hide hg
  have HT := hide ht
  clear hf hbb htx hg ht BX g0 hW0
  obtain ⟨b1, hb1⟩ := dec_exH (1 ≤ (n : Int) ∧ (n : Int) ≤ 6)
  have C1 := hide (fun wx => isPlaceCount_any (n : Int) wx b1 hb1)
  by_cases c1 : 1 ≤ (n : Int) ∧ (n : Int) ≤ 6
  rotate_left
  · obtain rfl : b1 = false := bool_noG hb1 c1
    obtain rfl : bb = false := bool_noG HBB.out (fun g => c1 ⟨by have := g.n1; omega, by have := g.n6; omega⟩)
    go_enter Try.func39, Try.ntmps39
    go_upto_region 1 with fail
    rw [← HW.out]
    go_wp2_with fail
    refine (C1.out _).mono ?_
    rintro e w1 ⟨rfl, rfl⟩
    go_wp2
    go_ret
    exact ⟨rfl, B0.out⟩
  obtain rfl : b1 = true := hb1.2 c1
  clear hb1
  by_cases c2 : m = n
  rotate_left
  · have hd : ((m : Int) != (n : Int)) = true := by simp; omega
    obtain rfl : bb = false := bool_noG HBB.out (fun g => c2 g.m)
    go_enter Try.func39, Try.ntmps39
    go_upto_region 1 with fail
    rw [← HW.out]
    go_wp2_with fail
    refine (C1.out _).mono ?_
    rintro e w1 ⟨rfl, rfl⟩
    go_wp2
    go_ret
    exact ⟨rfl, B0.out⟩
  subst c2
  by_cases c3 : G < 0
  · have c3' : ¬ 0 ≤ G := by omega
    obtain rfl : bb = false := bool_noG HBB.out (fun g => c3' (by have h1 := g.g0; rw [HG.out] at h1; exact h1))
    go_enter Try.func39, Try.ntmps39
    go_upto_region 1 with fail
    rw [← HW.out]
    go_wp2_with fail
    refine (C1.out _).mono ?_
    rintro e w1 ⟨rfl, rfl⟩
    go_wp2
    go_ret
    exact ⟨rfl, B0.out⟩
  by_cases c4 : G > 100000
  · have c4' : ¬ G ≤ 100000 := by omega
    obtain rfl : bb = false := bool_noG HBB.out (fun g => c4' (by have h1 := g.g1; rw [HG.out] at h1; exact h1))
    go_enter Try.func39, Try.ntmps39
    go_upto_region 1 with fail
    rw [← HW.out]
    go_wp2_with fail
    refine (C1.out _).mono ?_
    rintro e w1 ⟨rfl, rfl⟩
    go_wp2
    go_ret
    exact ⟨rfl, B0.out⟩
  have cG0 : 0 ≤ G := by omega
  have cG1 : G ≤ 100000 := by omega
  have hmb := mul_bd cG0 cG1 (n := m) (by omega)
  obtain ⟨tk, htk⟩ := tk_ex h.nm m
  have HTK := hide htk
  have htkm := htk.le
  have CT := hide (takenPlaces_any a m c b m d G T h tk W0 F0.out hn2 htk)
  clear htk
  go_enter Try.func39, Try.ntmps39
  go_upto_region 1 with fail
  rw [← HW.out]
  go_wp2_with fail
  refine (C1.out _).mono ?_
  rintro e w1 ⟨rfl, rfl⟩
  go_wp2_with fail
  refine CT.out.mono ?_
  rintro e w2 ⟨rfl, hb2⟩
  have B2 := hide hb2
  have F2 := hide (F0.out.below hb2)
  clear hb2 k0 k1 k2 k3
  obtain ⟨k0, k1, k2, k3⟩ := blk4 (blk_kept G0.out B2.out)
  go_wp2
  clear k0 k1 k2 k3
  go_loopw [5, 36] (fun s t wr => ∃ k : Nat, k ≤ m ∧ t = .int .i64 k ∧ s = .int .i64 (sm h.ct k) ∧ Hid (∀ j, j < k → PlOk h j) ∧ Hid (Below W0.heap.size W0 wr)) (fun _ t _ => m - (intOf t).toNat)
  case atStart => exact ⟨0, Nat.zero_le _, rfl, rfl, fun j hj => absurd hj (Nat.not_lt_zero _), B2⟩
  case round =>
    obtain ⟨k, hk, rfl, rfl, HJ, BW⟩ := hrel
    obtain ⟨k0, k1, k2, k3⟩ := blk4 (blk_kept G0.out BW.out)
    have hyb := sm_bd (l := h.ct) k (fun j hj => (HJ.out j hj).ct)
    by_cases hlt : k < m
    · have hltI : (k : Int) < (m : Int) := by omega
      have hk0 : (0 : Int) ≤ (k : Int) := by omega
      obtain ⟨ba, oa, rfl, hc⟩ := (F0.out.below BW.out).sN k (by rw [F0.out.ln]; exact hlt)
      obtain ⟨bc, oc, rfl, hd⟩ := (F0.out.below BW.out).sC k (by rw [F0.out.lc]; exact hlt)
      have hsz : (na h k).size ≤ 1048576 := HTX.out k (by rw [F0.out.ln]; exact hlt)
      obtain ⟨x, hx⟩ : ∃ x, x = na h k := ⟨_, rfl⟩
      obtain ⟨y, hy⟩ : ∃ y, y = ca h k := ⟨_, rfl⟩
      rw [show h.nm.getD k e0 = x from hx.symm] at hc
      rw [show h.ct.getD k 0 = y from hy.symm] at hd
      rw [← hx] at hsz
      have HX := hide hx
      have HY := hide hy
      have bad : (∀ g : GoodHv h m m, False) → Hid (bb = false) := fun q => hide (bool_noG HBB.out (fun g => q g))
      have hss : sm h.ct (k + 1) = sm h.ct k + y := by rw [hy]; rfl
      obtain ⟨u, hu⟩ : ∃ u, u = sm h.ct k := ⟨_, rfl⟩
      rw [← hu] at hyb hss ⊢
      have HSS := hide hss
      clear hx hy hss hu
      have HB0 := hide (fun (wz : World) (hb : Below wr.heap.size wr wz) => BW.out.trans (hb.mono BW.out.size))
      by_cases hkt : k < tk
      · have hktI : (k : Int) < (tk : Int) := by omega
        have hktG : ¬ (k : Int) ≥ (tk : Int) := by omega
        have hne : x ≠ e0 := by rw [HX.out]; exact HTK.out.ne k hkt
        obtain ⟨b5, hb5⟩ := dec_exH (L3.Word false x ∧ 1 ≤ y ∧ y ≤ 100000)
        have C5 := hide (fun wx => goodPlace_any x y wx (by omega) b5 hb5)
        by_cases h5 : L3.Word false x ∧ 1 ≤ y ∧ y ≤ 100000
        rotate_left
        · obtain rfl : b5 = false := bool_noG hb5 h5
          have EB := bad (fun g => by
            rcases g.p k hlt with ⟨h0, _⟩ | ⟨h1, _⟩
            · exact hne (by rw [HX.out]; exact h0)
            · exact h5 (by rw [HX.out, HY.out]; exact h1))
          clear bad hb5 HSS
          go_wp2_with fail
          refine (C5.out _).mono ?_
          rintro e w5 ⟨rfl, hb⟩
          have BF := hide (B0.out.trans ((HB0.out _ hb).mono B0.out.size))
          clear hb
          go_wp2
          go_ret
          exact ⟨by rw [EB.out]; rfl, BF.out⟩
        obtain rfl : b5 = true := hb5.2 h5
        have hyr := h5.2
        clear hb5
        cases k with
        | zero =>
          have P : Hid (PlOk h 0) := hide (.inr ⟨by rw [← HX.out, ← HY.out]; exact h5, fun q => absurd q (Nat.lt_irrefl _)⟩)
          have h00 : ¬ ((0 : Nat) : Int) > 0 := by omega
          rw [Nat.add_zero] at hc hd
          clear bad
          go_wp2_with fail
          refine (C5.out _).mono ?_
          rintro e w5 ⟨rfl, hb⟩
          have BF := hide (HB0.out _ hb)
          have hd5 := (hb.cell (p := ⟨bc, oc, none⟩) (blk_ltO hd)).trans hd
          clear hb k0 k1 k2 k3 hc hd
          obtain ⟨k0, k1, k2, k3⟩ := blk4 (blk_kept G0.out BF.out)
          go_wp2
          go_roundw
          case rel => exact ⟨0 + 1, by omega, by go_num, by rw [HSS.out], fun j hj => by
            obtain rfl : j = 0 := by omega
            exact P.out, BF⟩
          case measure => simp [intOf]; omega
        | succ q =>
          obtain ⟨b2, o2, e2, hp⟩ := (F0.out.below BW.out).sN q (by rw [F0.out.ln]; omega)
          obtain ⟨rfl, rfl⟩ : ba = b2 ∧ oa = o2 := by cases e2; exact ⟨rfl, rfl⟩
          obtain ⟨p, hpp⟩ : ∃ p, p = na h q := ⟨_, rfl⟩
          rw [show h.nm.getD q e0 = p from hpp.symm] at hp
          have HP := hide hpp
          have hqI : (q : Int) < (m : Int) := by omega
          have hq0 : (0 : Int) ≤ (q : Int) := by omega
          have hqp : ((q : Int) + 1) > 0 := by omega
          have hqm : (q : Int) + 1 - 1 = (q : Int) := by omega
          have hpne : p ≠ e0 := by rw [HP.out]; exact HTK.out.ne q (by omega)
          clear hpp e2
          by_cases hah : L3.Ahead p x
          · have P : Hid (PlOk h (q + 1)) := hide (.inr ⟨by rw [← HX.out, ← HY.out]; exact h5, fun _ => by rw [Nat.add_sub_cancel, ← HP.out, ← HX.out]; exact ⟨hpne, hah⟩⟩)
            obtain ⟨hl1, hl2⟩ := L3.ahead_not hah
            have hle : (Op.bytesLess x.toList p.toList || x.toList == p.toList) = false := by rw [hl1, hl2]; rfl
            clear bad
            go_wp2_with fail
            refine (C5.out _).mono ?_
            rintro e w5 ⟨rfl, hb⟩
            have BF := hide (HB0.out _ hb)
            have hd5 := (hb.cell (p := ⟨bc, oc + (q + 1), none⟩) (blk_ltO hd)).trans hd
            have hp5 := (hb.cell (p := ⟨ba, oa + q, none⟩) (blk_ltO hp)).trans hp
            clear hb k0 k1 k2 k3 hc hd hp
            obtain ⟨k0, k1, k2, k3⟩ := blk4 (blk_kept G0.out BF.out)
            go_wp2
            go_roundw
            case rel => exact ⟨q + 1 + 1, by omega, by go_num, by rw [HSS.out], fun j hj => by
              by_cases e : j = q + 1
              · subst e; exact P.out
              · exact HJ.out j (by omega), BF⟩
            case measure => simp [intOf]; omega
          · have EB := bad (fun g => by
              rcases g.p (q + 1) hlt with ⟨h0, _⟩ | ⟨_, h1⟩
              · exact hne (by rw [HX.out]; exact h0)
              · exact hah (by have := (h1 (by omega)).2; rw [Nat.add_sub_cancel, ← HP.out, ← HX.out] at this; exact this))
            have hle := L3.not_ahead hah
            clear bad HSS
            go_wp2_with fail
            refine (C5.out _).mono ?_
            rintro e w5 ⟨rfl, hb⟩
            have BF := hide (HB0.out _ hb)
            have hp5 := (hb.cell (p := ⟨ba, oa + q, none⟩) (blk_ltO hp)).trans hp
            have BR := hide (B0.out.trans (BF.out.mono B0.out.size))
            clear hb k0 k1 k2 k3 hc hd hp
            obtain ⟨k0, k1, k2, k3⟩ := blk4 (blk_kept G0.out BF.out)
            go_wp2
            go_ret
            exact ⟨by rw [EB.out]; rfl, BR.out⟩
      · have hktI : ¬ (k : Int) < (tk : Int) := by omega
        have hktG : (k : Int) ≥ (tk : Int) := by omega
        obtain ⟨b5, hb5⟩ := dec_exH (x = e0 ∧ y = 0)
        have C5 := hide (fun wx => isEmptyPlace_any x y wx b5 hb5)
        by_cases h5 : x = e0 ∧ y = 0
        rotate_left
        · obtain rfl : b5 = false := bool_noG hb5 h5
          have EB := bad (fun g => h5 (by rw [HX.out, HY.out]; exact g.tail HTK.out k (by omega) hlt))
          clear bad hb5 HSS
          go_wp2_with fail
          refine (C5.out _).mono ?_
          rintro e w5 ⟨rfl, rfl⟩
          have BF := hide (B0.out.trans (BW.out.mono B0.out.size))
          go_wp2
          go_ret
          exact ⟨by rw [EB.out]; rfl, BF.out⟩
        obtain rfl : b5 = true := hb5.2 h5
        have P : Hid (PlOk h k) := hide (.inl (by rw [← HX.out, ← HY.out]; exact h5))
        obtain ⟨hx5, hy5⟩ := h5
        subst hx5
        subst hy5
        have hkg : (k : Int) > 0 ∨ ¬ (k : Int) > 0 := by omega
        clear hb5 bad
        rcases hkg with hkg | hkg
        · go_wp2_with fail
          refine (C5.out _).mono ?_
          rintro e w5 ⟨rfl, rfl⟩
          go_wp2
          go_roundw
          case rel => exact ⟨k + 1, by omega, by go_num, by first | (rw [HSS.out]; done) | (rw [HSS.out]; congr 1; omega), fun j hj => by
            by_cases e : j = k
            · subst e; exact P.out
            · exact HJ.out j (by omega), BW⟩
          case measure => simp [intOf]; omega
        · go_wp2_with fail
          refine (C5.out _).mono ?_
          rintro e w5 ⟨rfl, rfl⟩
          go_wp2
          go_roundw
          case rel => exact ⟨k + 1, by omega, by go_num, by first | (rw [HSS.out]; done) | (rw [HSS.out]; congr 1; omega), fun j hj => by
            by_cases e : j = k
            · subst e; exact P.out
            · exact HJ.out j (by omega), BW⟩
          case measure => simp [intOf]; omega
    · obtain rfl : k = m := by omega
      have hltI : ¬ (k : Int) < (k : Int) := by omega
      obtain ⟨y, hy⟩ : ∃ y, y = sm h.ct k := ⟨_, rfl⟩
      rw [← hy] at hyb ⊢
      obtain ⟨p, hp⟩ : ∃ p, p = G * ((k : Int) + 1) := ⟨_, rfl⟩
      have hpb := hmb
      rw [← hp] at hpb
      have hp2 : G * ((k : Int) + 1) = p := hp.symm
      have BF := hide (B0.out.trans (BW.out.mono B0.out.size))
      by_cases e : T = y + p
      · have e2 : (T == y + p) = true := by simp [e]
        have EBB : Hid (bb = decide (T ≤ 1000000)) := hide (by
          rw [Bool.eq_iff_iff, HBB.out]
          simp
          exact ⟨fun g => by have := g.t1; rw [HT.out] at this; exact this, fun q => ⟨by omega, by omega, rfl, by rw [HG.out]; exact cG0, by rw [HG.out]; exact cG1, HJ.out, by rw [HT.out, HG.out, ← hp, ← hy]; exact e, by rw [HT.out]; exact q⟩⟩)
        clear hy hp hmb e
        go_wp2
        go_ret
        exact ⟨by rw [EBB.out]; rfl, BF.out⟩
      · have e2 : (T == y + p) = false := by simp [e]
        have EBB : Hid (bb = false) := hide (bool_noG HBB.out (fun g => e (by have := g.t; rw [HT.out, HG.out, ← hp, ← hy] at this; exact this)))
        clear hy hp hmb
        go_wp2
        go_ret
        exact ⟨by rw [EBB.out]; rfl, BF.out⟩
end Go.Proofs.Yticgejaaoamhmao.L15H

namespace Go.Proofs.Yticgejaaoamhmao.L15H
open Go.RowKit L1 Own Str
set_option linter.unusedVariables false

/-- What a region leaves, told once for all orders. -/
def putK (a : Act) (v0 v1 v2 v3 v4 v5 v6 v7 v8 v9 v10 v11 v12 : Value) : Act := (((((((((((((a.put (some 19) v0).put (some 20) v1).put (some 21) v2).put (some 22) v3).put (some 23) v4).put (some 24) v5).put (some 25) v6).put (some 26) v7).put (some 27) v8).put (some 28) v9).put (some 29) v10).put (some 30) v11).put (some 6) v12)
theorem wp_putK {P : Program} {c : Code} {Q : Exit → Act → World → Prop} {a : Act} {w : World} (R : Value → World → Prop)
    (h : c.wp P (fun e a' w' => e = .normal ∧ ∃ v0 v1 v2 v3 v4 v5 v6 v7 v8 v9 v10 v11 v12, a' = putK a v0 v1 v2 v3 v4 v5 v6 v7 v8 v9 v10 v11 v12 ∧ R v12 w') a w)
    (k : ∀ v0 v1 v2 v3 v4 v5 v6 v7 v8 v9 v10 v11 v12 w', R v12 w' → Q .normal (putK a v0 v1 v2 v3 v4 v5 v6 v7 v8 v9 v10 v11 v12) w') : c.wp P Q a w :=
  wp_mono h (by rintro e a' w' ⟨rfl, v0, v1, v2, v3, v4, v5, v6, v7, v8, v9, v10, v11, v12, rfl, hr⟩; exact k _ _ _ _ _ _ _ _ _ _ _ _ _ _ hr)
theorem own_someK {w : World} {base n c : Nat} {t : TypeId} {a : Option Addr} {xs : List Value} (h : w.ownsRow base t 1 (.slice a n c) n xs) (h0 : 0 < n) : ∃ g, a = some ⟨g, 0, none⟩ := by
  rcases h.2 with ⟨_, h1⟩ | ⟨g, cap, cur, hv, _⟩
  · omega
  · cases hv; exact ⟨g, rfl⟩
theorem BxH.below {w x x' : World} {zb base gN cN gC cC n : Nat} {G T : Int} {L1 : List ByteArray} {L2 : List Int} (k : BxH w x zb base gN cN gC cC n G T L1 L2) (hb : Below x.heap.size x x') (hw : base ≤ x.heap.size) : BxH w x' zb base gN cN gC cC n G T L1 L2 :=
  ⟨blk_kept k.X hb, own_belO k.N hb, own_belO k.C hb, k.nN, k.nC, k.bz, Nat.le_trans k.S hb.size, k.B.trans (hb.mono hw)⟩
theorem BxH.hf {w x : World} {zb base gN cN gC cC n : Nat} {G T : Int} {h : Hv} (k : BxH w x zb base gN cN gC cC n G T h.nm h.ct) : HF x (some ⟨gN, 0, none⟩) (some ⟨gC, 0, none⟩) n n h := by
  exact OwH.hf (cN := cN) (cC := cC) ⟨k.N, k.C⟩
theorem bxh_made {W1 x : World} {b B gN cN gC cC n : Nat} {G T : Int} {l1 : List ByteArray} {l2 : List Int} (hb : x.heap[b]? = some (hvO (.slice none 0 0) (.slice none 0 0) 0 0)) (oN : x.ownsRow B 9 1 (.slice (some ⟨gN, 0, none⟩) n cN) n (mapS l1)) (oC : x.ownsRow B 3 1 (.slice (some ⟨gC, 0, none⟩) n cC) n (ints l2))
    (hN : gN ≠ b) (hC : gC ≠ b) (hB : B ≤ b) (hS : W1.heap.size ≤ x.heap.size) (be : Below B W1 x) :
    BxH W1 ((((x.setCell ⟨b, 0, none⟩ (.slice (some ⟨gN, 0, none⟩) n cN)).setCell ⟨b, 1, none⟩ (.slice (some ⟨gC, 0, none⟩) n cC)).setCell ⟨b, 2, none⟩ (.int .i64 G)).setCell ⟨b, 3, none⟩ (.int .i64 T)) b B gN cN gC cC n G T l1 l2 := by
  have keep : ∀ {g c : Nat} {t : TypeId} {ys : List Value}, x.ownsRow B t 1 (.slice (some ⟨g, 0, none⟩) n c) n ys → g ≠ b → ((((x.setCell ⟨b, 0, none⟩ (.slice (some ⟨gN, 0, none⟩) n cN)).setCell ⟨b, 1, none⟩ (.slice (some ⟨gC, 0, none⟩) n cC)).setCell ⟨b, 2, none⟩ (.int .i64 G)).setCell ⟨b, 3, none⟩ (.int .i64 T)).ownsRow B t 1 (.slice (some ⟨g, 0, none⟩) n c) n ys := fun {g c t ys} ho hg =>
    own_neH (own_neH (own_neH (own_neH ho _ _ (fun q hq => by cases hq; exact hg)) _ _ (fun q hq => by cases hq; exact hg)) _ _ (fun q hq => by cases hq; exact hg)) _ _ (fun q hq => by cases hq; exact hg)
  exact ⟨set4 hb, keep oN hN, keep oC hC, hN, hC, hB, by simp only [World.size_setCell]; exact hS, below4 be b hB _ _ _ _⟩
set_option maxRecDepth 100000 in
set_option maxHeartbeats 8000000 in
theorem addHeavy_any (a : Option Addr) (n c : Nat) (b : Option Addr) (m d : Nat) (G T : Int) (h : Hv) (s : ByteArray) (w : World) (hf : HF w a b n m h) (hg : h.g = G) (ht : h.t = T) (hn2 : n ≤ 1048576) (hm2 : m ≤ 1048576) (htx : ∀ i, i < h.nm.length → (h.nm.getD i e0).size ≤ 1048576) (hsS : s.size ≤ 9223372036854775807) (ok : Bool) (L : Hv) (hr : IsAddR h n m s ok L) :
    Calls Try.prog 12 #[.agg #[.slice a n c, .slice b m d, .int .i64 G, .int .i64 T], .string s] w fun e w' => ∃ v u, e = .returned (.tuple #[hvV v u L.g L.t, .bool ok]) ∧ RH w w' v u L := by
  obtain ⟨Z, hZ⟩ : ∃ x, x = hvO (.slice none 0 0) (.slice none 0 0) 0 0 := ⟨_, rfl⟩
  have q1 := L8.blk_new w (hvO (.slice a n c) (.slice b m d) G T)
  have q2 := L8.blk_new (w.alloc (hvO (.slice a n c) (.slice b m d) G T)) Z
  have k1 := blk_kept q1 ((Below.refl _ _).alloc (Nat.le_refl _) Z)
  have e1 : (w.alloc (hvO (.slice a n c) (.slice b m d) G T)).heap.size = w.heap.size + 1 := by simp
  have ez : ((w.alloc (hvO (.slice a n c) (.slice b m d) G T)).alloc Z).heap.size = w.heap.size + 2 := by simp
  have BX := ((Below.refl w.heap.size w).alloc (Nat.le_refl _) (hvO (.slice a n c) (.slice b m d) G T)).alloc (by simp) Z
  rw [e1] at q2
  obtain ⟨W0, hW0⟩ : ∃ W0, W0 = (w.alloc (hvO (.slice a n c) (.slice b m d) G T)).alloc Z := ⟨_, rfl⟩
  rw [← hW0] at BX q2 k1 ez
  rw [hZ] at q2 hW0
  have HW := hide hW0
  have BQ := hide BX
  have K1 := hide k1
  have K2 := hide q2
  have EZ := hide ez
  have F0 := hide (hf.below BX)
  clear BX hW0 q1 q2 k1 e1 ez hZ hf
  by_cases hgd : GoodHv h n m
  rotate_left
  · obtain ⟨rfl, rfl⟩ := hr.bad (fun q => hgd q.1)
    have CG := hide (goodHeavy_any a n c b m d G T h W0 F0.out hg ht hn2 hm2 htx false ⟨fun q => (by cases q), fun q => absurd q hgd⟩)
    clear hr hg ht
    go_enter Try.func12, Try.ntmps12
    go_upto_region 1 with fail
    rw [← HW.out]
    obtain ⟨k0, k1, k2, k3⟩ := blk4 K1.out
    go_wp2_with fail
    refine CG.out.mono ?_
    rintro e w1 ⟨rfl, hb⟩
    have B1 := hide (BQ.out.trans (hb.mono BQ.out.size))
    have Z1 := hide (blk_kept K2.out hb)
    clear hb k0 k1 k2 k3
    obtain ⟨y0, y1, y2, y3⟩ := blk4 Z1.out
    obtain ⟨f0, f1, f2, f3⟩ := frz4 Z1.out
    have R9 := hide (set4 (a' := (.slice none 0 0)) (b' := (.slice none 0 0)) (c' := .int .i64 0) (d' := .int .i64 0) Z1.out)
    have B9 := hide (below4 B1.out (w.heap.size + 1) (by omega) (.slice none 0 0) (.slice none 0 0) (.int .i64 0) (.int .i64 0))
    go_wp2
    clear y0 y1 y2 y3 f0 f1 f2 f3
    obtain ⟨d0, d1, d2, d3⟩ := blk4 R9.out
    refine bodyPost_ret (v := .tuple #[hvV (.slice none 0 0) (.slice none 0 0) 0 0, .bool false]) (by simp [results, Try.f12, go_sem, d0, d1, d2, d3]) rfl ⟨_, _, rfl, rh_nil B9.out⟩
  have CG := hide (goodHeavy_any a n c b m d G T h W0 F0.out hg ht hn2 hm2 htx true ⟨fun _ => hgd, fun _ => rfl⟩)
  by_cases hwd : L3.Word false s
  rotate_left
  · obtain ⟨rfl, rfl⟩ := hr.bad (fun q => hwd q.2)
    have CW := hide (fun wx => L3.isName_any s wx hsS false ⟨fun q => (by cases q), fun q => absurd q hwd⟩)
    clear hr hg ht hgd
    go_enter Try.func12, Try.ntmps12
    go_upto_region 1 with fail
    rw [← HW.out]
    obtain ⟨k0, k1, k2, k3⟩ := blk4 K1.out
    go_wp2_with fail
    refine CG.out.mono ?_
    rintro e w1 ⟨rfl, hb⟩
    have B1 := hide (BQ.out.trans (hb.mono BQ.out.size))
    have Z1 := hide (blk_kept K2.out hb)
    clear hb k0 k1 k2 k3
    go_wp2_with fail
    refine (CW.out _).mono ?_
    rintro e w2 ⟨rfl, hb⟩
    have Z2 := hide (blk_kept Z1.out hb)
    have B2 := hide (B1.out.trans (hb.mono B1.out.size))
    clear hb
    obtain ⟨y0, y1, y2, y3⟩ := blk4 Z2.out
    obtain ⟨f0, f1, f2, f3⟩ := frz4 Z2.out
    have R9 := hide (set4 (a' := (.slice none 0 0)) (b' := (.slice none 0 0)) (c' := .int .i64 0) (d' := .int .i64 0) Z2.out)
    have B9 := hide (below4 B2.out (w.heap.size + 1) (by omega) (.slice none 0 0) (.slice none 0 0) (.int .i64 0) (.int .i64 0))
    go_wp2
    clear y0 y1 y2 y3 f0 f1 f2 f3
    obtain ⟨d0, d1, d2, d3⟩ := blk4 R9.out
    refine bodyPost_ret (v := .tuple #[hvV (.slice none 0 0) (.slice none 0 0) 0 0, .bool false]) (by simp [results, Try.f12, go_sem, d0, d1, d2, d3]) rfl ⟨_, _, rfl, rh_nil B9.out⟩
  have hmn : m = n := hgd.m
  subst m
  obtain ⟨tk, hk⟩ := tk_ex h.nm n
  obtain ⟨p, hp⟩ := at_ex s tk (hgd.rise hk)
  obtain ⟨h', hh⟩ : ∃ x, x = addH h n tk p s := ⟨_, rfl⟩
  obtain ⟨hok, hL⟩ := hr.good tk p hgd hwd hk hp
  have hln := addH_len (n := n) (m := n) (tk := tk) (p := p) (s := s) F0.out.ln F0.out.lc
  have hsz := addH_sz (n := n) (tk := tk) (p := p) (h := h) (show s.size ≤ 1048576 by have := hwd.1.2; omega) htx
  rw [← hh] at hok hL hln hsz
  have HLN := hide hln
  have h0n : 0 < n := hgd.n1
  have hn6 : n ≤ 6 := hgd.n6
  have hbT : 0 ≤ T ∧ T ≤ 1000000 := by have h1 := hgd.t0; have h2 := hgd.t1; omega
  have hbG : 0 ≤ G ∧ G ≤ 1000000 := by have h1 := hgd.g0; have h2 := hgd.g1; omega
  have hct : ∀ i, i < n → 0 ≤ ca h i ∧ ca h i ≤ 1000000 := fun i hi => by have := (hgd.p i hi).ct; omega
  have htl := hgd.tail hk
  have CW := hide (fun wx => L3.isName_any s wx hsS true ⟨fun _ => hwd, fun _ => rfl⟩)
  obtain ⟨okf, hokf⟩ := dec_exH (p < tk ∧ na h p = s)
  have CF := hide (fun (wx : World) (aN aC : Option Addr) (cN cC : Nat) (q : HF wx aN aC n n h) hc => findPlace_any aN n cN aC n cC G (T + 1) h s tk p okf wx q h0n hn2 hc hk (hgd.rise hk) hp hokf)
  have CT := hide (fun (wx : World) (aN aC : Option Addr) (cN cC : Nat) (q : HF wx aN aC n n h) => takenPlaces_any aN n cN aC n cC G (T + 1) h tk wx q hn2 hk)
  have CB := hide (fun wx aN cN aC cC (q : HF wx aN aC n n h') => goodHeavy_any aN n cN aC n cC h'.g h'.t h' wx q rfl rfl hn2 hn2 hsz ok hok)
  have HL := hide hL
  have HH := hide hh
  have HK := hide hk
  have HP := hide hp
  have HOKF := hide hokf
  have HCT := hide hct
  have HTL := hide htl
  have HGT := hide (And.intro hg ht)
  clear hr hg ht hgd hwd hk hp hh hok hL hln hsz htx hokf hct htl
  go_enter Try.func12, Try.ntmps12
  go_upto_region 1 with fail
  rw [← HW.out]
  obtain ⟨k0, k1, k2, k3⟩ := blk4 K1.out
  go_wp2_with fail
  refine CG.out.mono ?_
  rintro e w1 ⟨rfl, hb⟩
  have B1 := hide hb
  clear hb k0 k1 k2 k3
  go_wp2_with fail
  refine (CW.out _).mono ?_
  rintro e W1 ⟨rfl, hb⟩
  have BW1 := hide (B1.out.trans (hb.mono B1.out.size))
  have BQ1 := hide (BQ.out.trans (BW1.out.mono BQ.out.size))
  have K1W := hide (blk_kept K1.out BW1.out)
  have K2W := hide (blk_kept K2.out BW1.out)
  have F1 := hide (F0.out.below BW1.out)
  have SE := hide (show w.heap.size + 2 ≤ W1.heap.size by have h1 := EZ.out; have h2 := BW1.out.size; omega)
  have CSN := hide (fun wx (hb : Below W1.heap.size W1 wx) => cloneS_any a h.nm n c wx F1.out.ln h0n hn2 (F1.out.below hb).sN)
  have CSC := hide (fun wx (hb : Below W1.heap.size W1 wx) => cloneI_any b h.ct n d wx F1.out.lc h0n hn2 (F1.out.below hb).sC)
  obtain ⟨k0, k1, k2, k3⟩ := blk4 K1W.out
  have hwT : IntKind.i64.wrap (T + 1) = T + 1 := by
    simp only [IntKind.wrap, IntKind.bits, IntKind.signed]
    simp
    omega
  clear hb
  go_upto_region 3 with fail
  refine wp_putK (fun v wS => ∃ zb gN cN gC cC, v = .pointer (some ⟨zb, 0, none⟩) ∧ BxH W1 wS zb W1.heap.size gN cN gC cC n G (T + 1) h.nm h.ct) ?_ ?_
  · refine wp_region_held_drew (S := (fun wx => (wx.cell? ⟨w.heap.size, 0, none⟩ = some (.slice a n c) ∧ wx.cell? ⟨w.heap.size, 1, none⟩ = some (.slice b n d) ∧ wx.cell? ⟨w.heap.size, 2, none⟩ = some (.int .i64 G) ∧ wx.cell? ⟨w.heap.size, 3, none⟩ = some (.int .i64 T)) ∧ Below W1.heap.size W1 wx)) (by kernel_rfl) ⟨⟨k0, k1, k2, k3⟩, (Below.refl _ _).drew⟩ (fun hHeld => ?_)
    clear k0 k1 k2 k3
    have E0 := hide (show Below W1.heap.size W1 W1.drew from (Below.refl _ _).drew)
    refine wpAnyH_take (i := 0) (v := ?v1) rfl (by kernel_rfl) (by kernel_rfl) (by kernel_rfl) (fun _ _ _ h => by cases h.1) (Or.inl ⟨by rfl, ?y1⟩) (by assumption) ?r1
    case y1 => (intro w hSw; (try dsimp only at hSw); go_simp; try (with_reducible rfl))
    simp only [List.getElem_toArray, List.getElem_cons_zero, Act.put, List.setIfInBounds_toArray, List.set_cons_zero, List.set_cons_succ]
    refine wpAnyH_take (i := 1) (v := ?v2) rfl (by kernel_rfl) (by kernel_rfl) (by kernel_rfl) (fun _ _ _ h => by cases h.1) (Or.inl ⟨by rfl, ?y2⟩) (by assumption) ?r2
    case y2 => (intro w hSw; (try dsimp only at hSw); go_simp; try (with_reducible rfl))
    simp only [List.getElem_toArray, List.getElem_cons_succ, List.getElem_cons_zero, Act.put, List.setIfInBounds_toArray, List.set_cons_zero, List.set_cons_succ]
    refine wpAnyH_take (i := 3) (v := ?v3) rfl (by kernel_rfl) (by kernel_rfl) (by kernel_rfl) (fun _ _ _ h => by cases h.1) (Or.inl ⟨by rfl, ?y3⟩) (by assumption) ?r3
    case y3 => (intro w hSw; (try dsimp only at hSw); go_simp; try (with_reducible rfl))
    simp only [List.getElem_toArray, List.getElem_cons_succ, List.getElem_cons_zero, Act.put, List.setIfInBounds_toArray, List.set_cons_zero, List.set_cons_succ]
    refine wpAnyH_take (i := 4) (v := ?v4) rfl (by kernel_rfl) (by kernel_rfl) (by kernel_rfl) (fun _ _ _ h => by cases h.1) (Or.inl ⟨by rfl, ?y4⟩) (by assumption) ?r4
    case y4 => (intro w hSw; (try dsimp only at hSw); go_simp; try (with_reducible rfl))
    simp only [List.getElem_toArray, List.getElem_cons_succ, List.getElem_cons_zero, Act.put, List.setIfInBounds_toArray, List.set_cons_zero, List.set_cons_succ]
    refine wpAnyH_take (i := 6) (v := ?v5) rfl (by kernel_rfl) (by kernel_rfl) (by kernel_rfl) (fun _ _ _ h => by cases h.1) (Or.inl ⟨by rfl, ?y5⟩) (by assumption) ?r5
    case y5 => (intro w hSw; (try dsimp only at hSw); go_simp; try (with_reducible rfl))
    simp only [List.getElem_toArray, List.getElem_cons_succ, List.getElem_cons_zero, Act.put, List.setIfInBounds_toArray, List.set_cons_zero, List.set_cons_succ]
    refine wpAnyH_take (i := 7) (v := ?v6) rfl (by kernel_rfl) (by kernel_rfl) (by kernel_rfl) (fun _ _ _ h => by cases h.1) (Or.inl ⟨by rfl, ?y6⟩) (by assumption) ?r6
    case y6 => (intro w hSw; (try dsimp only at hSw); go_simp; try (with_reducible rfl))
    simp only [List.getElem_toArray, List.getElem_cons_succ, List.getElem_cons_zero, Act.put, List.setIfInBounds_toArray, List.set_cons_zero, List.set_cons_succ]
    refine wpAnyH_take (i := 8) (v := ?v7) rfl (by kernel_rfl) (by kernel_rfl) (by kernel_rfl) (fun _ _ _ h => by cases h.1) (Or.inl ⟨by rfl, ?y7⟩) (by assumption) ?r7
    case y7 => (intro w hSw; (try dsimp only at hSw); go_simp; try (with_reducible rfl))
    simp only [List.getElem_toArray, List.getElem_cons_succ, List.getElem_cons_zero, Act.put, List.setIfInBounds_toArray, List.set_cons_zero, List.set_cons_succ]
    refine wpAnyH_take (i := 9) (v := ?v8) rfl (by kernel_rfl) (by kernel_rfl) (by kernel_rfl) (fun _ _ _ h => by cases h.1) (Or.inl ⟨by rfl, ?y8⟩) (by assumption) ?r8
    case y8 => (intro w hSw; (try dsimp only at hSw); go_simp; try (with_reducible rfl))
    simp only [List.getElem_toArray, List.getElem_cons_succ, List.getElem_cons_zero, Act.put, List.setIfInBounds_toArray, List.set_cons_zero, List.set_cons_succ]
    refine wpAnyH_take (i := 10) (v := ?v9) rfl (by kernel_rfl) (by kernel_rfl) (by kernel_rfl) (fun _ _ _ h => by cases h.1) (Or.inl ⟨by rfl, ?y9⟩) (by assumption) ?r9
    case y9 => (intro w hSw; (try dsimp only at hSw); go_simp; try (with_reducible rfl))
    simp only [List.getElem_toArray, List.getElem_cons_succ, List.getElem_cons_zero, Act.put, List.setIfInBounds_toArray, List.set_cons_zero, List.set_cons_succ]
    refine wpAnyH_ready (rs := [2, 12]) (by kernel_rfl) (by simp) ?_
    refine AllReadyH.cons rfl (fun K hK => ?_) (AllReadyH.cons rfl (fun K hK => ?_) AllReadyH.nil)
    · simp only [List.getElem_toArray, List.getElem_cons_succ, List.getElem_cons_zero]
      go_simp
      go_at_call 41
      refine (CSN.out _ E0.out).mono ?_
      rintro e w_1 ⟨a_2, c_3, rfl, ho, hb⟩
      obtain ⟨g_4, rfl⟩ := own_someK ho h0n
      have ON_5 := hide (own_baseS ho E0.out.size)
      have Q_7 := hide (L8.own_lt ho g_4 rfl)
      have E_6 := hide (E0.out.trans (hb.mono E0.out.size))
      dsimp only
      refine hK.out _ _ ?_ (fun hHeld => ?_)
      · exact L8.keep4 hHeld hb (Nat.le_refl _)
      clear hK K hb ho
      try simp only [Act.put, List.setIfInBounds_toArray, List.set_cons_zero, List.set_cons_succ]
      refine wpAnyH_ready (rs := [5, 12]) (by kernel_rfl) (by simp) ?_
      refine AllReadyH.cons rfl (fun K hK => ?_) (AllReadyH.cons rfl (fun K hK => ?_) AllReadyH.nil)
      · simp only [List.getElem_toArray, List.getElem_cons_succ, List.getElem_cons_zero]
        go_simp
        go_at_call 42
        refine (CSC.out _ E_6.out).mono ?_
        rintro e w_8 ⟨a_9, c_10, rfl, ho, hb⟩
        obtain ⟨g_11, rfl⟩ := own_someK ho h0n
        have OC_12 := hide (own_baseS ho E_6.out.size)
        have Q_14 := hide (L8.own_lt ho g_11 rfl)
        have E_13 := hide (E_6.out.trans (hb.mono E_6.out.size))
        have ON_15 := hide (own_belO ON_5.out hb)
        dsimp only
        refine hK.out _ _ ?_ (fun hHeld => ?_)
        · exact L8.keep4 hHeld hb (Nat.le_refl _)
        clear hK K hb ho
        try simp only [Act.put, List.setIfInBounds_toArray, List.set_cons_zero, List.set_cons_succ]
        refine wpAnyH_take (i := 11) (v := ?v10) rfl (by kernel_rfl) (by kernel_rfl) (by kernel_rfl) (fun _ _ _ h => by cases h.1) (Or.inl ⟨by rfl, ?y10⟩) (by assumption) ?r10
        case y10 => (intro w hSw; (try dsimp only at hSw); go_simp; try (with_reducible rfl))
        simp only [List.getElem_toArray, List.getElem_cons_succ, List.getElem_cons_zero, Act.put, List.setIfInBounds_toArray, List.set_cons_zero, List.set_cons_succ]
        refine wpAnyH_ready (rs := [12]) (by kernel_rfl) (by simp) ?_
        refine AllReadyH.cons rfl (fun K hK => ?_) AllReadyH.nil
        simp only [List.getElem_toArray, List.getElem_cons_succ, List.getElem_cons_zero]
        obtain ⟨w_16, hw6⟩ : ∃ W, (w_8.alloc (hvO (.slice none 0 0) (.slice none 0 0) 0 0)) = W := ⟨_, rfl⟩
        obtain ⟨b_19, hb6⟩ : ∃ q, q = w_8.heap.size := ⟨_, rfl⟩
        have HB_20 := hide hb6
        have e6 : Below w_8.heap.size w_8 w_16 := by rw [← hw6]; exact (show Below w_8.heap.size w_8 (w_8.alloc (hvO (.slice none 0 0) (.slice none 0 0) 0 0)) from (Below.refl w_8.heap.size w_8).alloc (Nat.le_refl _) _)
        have BX_18 := hide (show w_16.heap[b_19]? = some (hvO (.slice none 0 0) (.slice none 0 0) 0 0) by rw [← hw6, hb6]; exact L8.blk_new w_8 _)
        have E_17 := hide (E_13.out.trans (e6.mono E_13.out.size))
        have ON_21 := hide (own_belO ON_15.out e6)
        have NE_22 := hide (show g_4 ≠ b_19 by have h2 := (L8.own_lt ON_15.out g_4 rfl).2; rw [hb6]; omega)
        have OC_23 := hide (own_belO OC_12.out e6)
        have NE_24 := hide (show g_11 ≠ b_19 by have h2 := (L8.own_lt OC_12.out g_11 rfl).2; rw [hb6]; omega)
        have LB_25 := hide (show W1.heap.size ≤ b_19 by rw [hb6]; exact E_13.out.size)
        go_simp
        try rw [hw6]
        try rw [← hb6]
        refine hK.out _ _ ?_ (fun hHeld => ?_)
        · exact L8.keep4 hHeld e6 (Nat.le_refl _)
        clear hK K hw6 e6 hb6
        try simp only [Act.put, List.setIfInBounds_toArray, List.set_cons_zero, List.set_cons_succ]
        refine wpAnyH_ready (rs := [13]) (by kernel_rfl) (by simp) ?_
        refine AllReadyH.cons rfl (fun K hK => ?_) AllReadyH.nil
        simp only [List.getElem_toArray, List.getElem_cons_succ, List.getElem_cons_zero]
        obtain ⟨z0, z1, z2, z3⟩ := blk4 BX_18.out
        obtain ⟨f0, f1, f2, f3⟩ := frz4 BX_18.out
        go_simp
        obtain ⟨wS_26, hS⟩ : ∃ x, ((((w_16.setCell ⟨b_19, 0, none⟩ (.slice (some ⟨g_4, 0, none⟩) n c_3)).setCell ⟨b_19, 1, none⟩ (.slice (some ⟨g_11, 0, none⟩) n c_10)).setCell ⟨b_19, 2, none⟩ (.int .i64 G)).setCell ⟨b_19, 3, none⟩ (.int .i64 (T + 1))) = x := ⟨_, rfl⟩
        have KB_27 := hide (show BxH W1 wS_26 b_19 W1.heap.size g_4 c_3 g_11 c_10 n G (T + 1) h.nm h.ct by rw [← hS]; exact bxh_made BX_18.out ON_21.out OC_23.out NE_22.out NE_24.out LB_25.out E_17.out.size E_17.out)
        rw [hS]
        refine hK.out _ _ ?_ (fun hHeld => ?_)
        · obtain ⟨h1, h2, h3, h4⟩ := blk4 (blk_kept K1W.out KB_27.out.B)
          exact ⟨⟨h1, h2, h3, h4⟩, KB_27.out.B⟩
        clear hK K z0 z1 z2 z3 f0 f1 f2 f3 hS
        try simp only [Act.put, List.setIfInBounds_toArray, List.set_cons_zero, List.set_cons_succ]
        refine wpAnyH_done (by kernel_rfl) ?_ _
        clear hHeld
        simp only [putK, Act.put, List.setIfInBounds_toArray, List.set_cons_zero, List.set_cons_succ]
        exact ⟨trivial, _, _, _, _, _, _, _, _, _, _, _, _, _, rfl, b_19, g_4, c_3, g_11, c_10, rfl, KB_27.out⟩
      · simp only [List.getElem_toArray, List.getElem_cons_succ, List.getElem_cons_zero]
        obtain ⟨w_28, hw6⟩ : ∃ W, (w_1.alloc (hvO (.slice none 0 0) (.slice none 0 0) 0 0)) = W := ⟨_, rfl⟩
        obtain ⟨b_31, hb6⟩ : ∃ q, q = w_1.heap.size := ⟨_, rfl⟩
        have HB_32 := hide hb6
        have e6 : Below w_1.heap.size w_1 w_28 := by rw [← hw6]; exact (show Below w_1.heap.size w_1 (w_1.alloc (hvO (.slice none 0 0) (.slice none 0 0) 0 0)) from (Below.refl w_1.heap.size w_1).alloc (Nat.le_refl _) _)
        have BX_30 := hide (show w_28.heap[b_31]? = some (hvO (.slice none 0 0) (.slice none 0 0) 0 0) by rw [← hw6, hb6]; exact L8.blk_new w_1 _)
        have E_29 := hide (E_6.out.trans (e6.mono E_6.out.size))
        have ON_33 := hide (own_belO ON_5.out e6)
        have NE_34 := hide (show g_4 ≠ b_31 by have h2 := (L8.own_lt ON_5.out g_4 rfl).2; rw [hb6]; omega)
        have LB_35 := hide (show W1.heap.size ≤ b_31 by rw [hb6]; exact E_6.out.size)
        go_simp
        try rw [hw6]
        try rw [← hb6]
        refine hK.out _ _ ?_ (fun hHeld => ?_)
        · exact L8.keep4 hHeld e6 (Nat.le_refl _)
        clear hK K hw6 e6 hb6
        try simp only [Act.put, List.setIfInBounds_toArray, List.set_cons_zero, List.set_cons_succ]
        refine wpAnyH_ready (rs := [5]) (by kernel_rfl) (by simp) ?_
        refine AllReadyH.cons rfl (fun K hK => ?_) AllReadyH.nil
        simp only [List.getElem_toArray, List.getElem_cons_succ, List.getElem_cons_zero]
        go_simp
        go_at_call 42
        refine (CSC.out _ E_29.out).mono ?_
        rintro e w_36 ⟨a_37, c_38, rfl, ho, hb⟩
        obtain ⟨g_39, rfl⟩ := own_someK ho h0n
        have OC_40 := hide (own_baseS ho E_29.out.size)
        have Q_42 := hide (L8.own_lt ho g_39 rfl)
        have E_41 := hide (E_29.out.trans (hb.mono E_29.out.size))
        have ON_43 := hide (own_belO ON_33.out hb)
        have BX_44 := hide (blk_kept BX_30.out hb)
        have NE_45 := hide (show g_39 ≠ b_31 by have h1 := (Array.getElem?_eq_some_iff.1 BX_30.out).1; have h2 := Q_42.out.1; omega)
        dsimp only
        refine hK.out _ _ ?_ (fun hHeld => ?_)
        · exact L8.keep4 hHeld hb (Nat.le_refl _)
        clear hK K hb ho
        try simp only [Act.put, List.setIfInBounds_toArray, List.set_cons_zero, List.set_cons_succ]
        refine wpAnyH_take (i := 11) (v := ?v11) rfl (by kernel_rfl) (by kernel_rfl) (by kernel_rfl) (fun _ _ _ h => by cases h.1) (Or.inl ⟨by rfl, ?y11⟩) (by assumption) ?r11
        case y11 => (intro w hSw; (try dsimp only at hSw); go_simp; try (with_reducible rfl))
        simp only [List.getElem_toArray, List.getElem_cons_succ, List.getElem_cons_zero, Act.put, List.setIfInBounds_toArray, List.set_cons_zero, List.set_cons_succ]
        refine wpAnyH_ready (rs := [13]) (by kernel_rfl) (by simp) ?_
        refine AllReadyH.cons rfl (fun K hK => ?_) AllReadyH.nil
        simp only [List.getElem_toArray, List.getElem_cons_succ, List.getElem_cons_zero]
        obtain ⟨z0, z1, z2, z3⟩ := blk4 BX_44.out
        obtain ⟨f0, f1, f2, f3⟩ := frz4 BX_44.out
        go_simp
        obtain ⟨wS_46, hS⟩ : ∃ x, ((((w_36.setCell ⟨b_31, 0, none⟩ (.slice (some ⟨g_4, 0, none⟩) n c_3)).setCell ⟨b_31, 1, none⟩ (.slice (some ⟨g_39, 0, none⟩) n c_38)).setCell ⟨b_31, 2, none⟩ (.int .i64 G)).setCell ⟨b_31, 3, none⟩ (.int .i64 (T + 1))) = x := ⟨_, rfl⟩
        have KB_47 := hide (show BxH W1 wS_46 b_31 W1.heap.size g_4 c_3 g_39 c_38 n G (T + 1) h.nm h.ct by rw [← hS]; exact bxh_made BX_44.out ON_43.out OC_40.out NE_34.out NE_45.out LB_35.out E_41.out.size E_41.out)
        rw [hS]
        refine hK.out _ _ ?_ (fun hHeld => ?_)
        · obtain ⟨h1, h2, h3, h4⟩ := blk4 (blk_kept K1W.out KB_47.out.B)
          exact ⟨⟨h1, h2, h3, h4⟩, KB_47.out.B⟩
        clear hK K z0 z1 z2 z3 f0 f1 f2 f3 hS
        try simp only [Act.put, List.setIfInBounds_toArray, List.set_cons_zero, List.set_cons_succ]
        refine wpAnyH_done (by kernel_rfl) ?_ _
        clear hHeld
        simp only [putK, Act.put, List.setIfInBounds_toArray, List.set_cons_zero, List.set_cons_succ]
        exact ⟨trivial, _, _, _, _, _, _, _, _, _, _, _, _, _, rfl, b_31, g_4, c_3, g_39, c_38, rfl, KB_47.out⟩
    · simp only [List.getElem_toArray, List.getElem_cons_succ, List.getElem_cons_zero]
      obtain ⟨w_48, hw6⟩ : ∃ W, (W1.alloc (hvO (.slice none 0 0) (.slice none 0 0) 0 0)).drew = W := ⟨_, rfl⟩
      obtain ⟨b_51, hb6⟩ : ∃ q, q = W1.heap.size := ⟨_, rfl⟩
      have HB_52 := hide hb6
      have e6 : Below W1.drew.heap.size W1.drew w_48 := by rw [← hw6]; exact (show Below W1.drew.heap.size W1.drew (W1.drew.alloc (hvO (.slice none 0 0) (.slice none 0 0) 0 0)) from (Below.refl W1.drew.heap.size W1.drew).alloc (Nat.le_refl _) _)
      have BX_50 := hide (show w_48.heap[b_51]? = some (hvO (.slice none 0 0) (.slice none 0 0) 0 0) by rw [← hw6, hb6]; exact L8.blk_new W1 _)
      have E_49 := hide (E0.out.trans (e6.mono E0.out.size))
      have LB_53 := hide (show W1.heap.size ≤ b_51 by rw [hb6]; exact E0.out.size)
      go_simp
      try rw [hw6]
      try rw [← hb6]
      refine hK.out _ _ ?_ (fun hHeld => ?_)
      · exact L8.keep4 hHeld e6 (Nat.le_refl _)
      clear hK K hw6 e6 hb6
      try simp only [Act.put, List.setIfInBounds_toArray, List.set_cons_zero, List.set_cons_succ]
      refine wpAnyH_ready (rs := [2]) (by kernel_rfl) (by simp) ?_
      refine AllReadyH.cons rfl (fun K hK => ?_) AllReadyH.nil
      simp only [List.getElem_toArray, List.getElem_cons_succ, List.getElem_cons_zero]
      go_simp
      go_at_call 41
      refine (CSN.out _ E_49.out).mono ?_
      rintro e w_54 ⟨a_55, c_56, rfl, ho, hb⟩
      obtain ⟨g_57, rfl⟩ := own_someK ho h0n
      have ON_58 := hide (own_baseS ho E_49.out.size)
      have Q_60 := hide (L8.own_lt ho g_57 rfl)
      have E_59 := hide (E_49.out.trans (hb.mono E_49.out.size))
      have BX_61 := hide (blk_kept BX_50.out hb)
      have NE_62 := hide (show g_57 ≠ b_51 by have h1 := (Array.getElem?_eq_some_iff.1 BX_50.out).1; have h2 := Q_60.out.1; omega)
      dsimp only
      refine hK.out _ _ ?_ (fun hHeld => ?_)
      · exact L8.keep4 hHeld hb (Nat.le_refl _)
      clear hK K hb ho
      try simp only [Act.put, List.setIfInBounds_toArray, List.set_cons_zero, List.set_cons_succ]
      refine wpAnyH_ready (rs := [5]) (by kernel_rfl) (by simp) ?_
      refine AllReadyH.cons rfl (fun K hK => ?_) AllReadyH.nil
      simp only [List.getElem_toArray, List.getElem_cons_succ, List.getElem_cons_zero]
      go_simp
      go_at_call 42
      refine (CSC.out _ E_59.out).mono ?_
      rintro e w_63 ⟨a_64, c_65, rfl, ho, hb⟩
      obtain ⟨g_66, rfl⟩ := own_someK ho h0n
      have OC_67 := hide (own_baseS ho E_59.out.size)
      have Q_69 := hide (L8.own_lt ho g_66 rfl)
      have E_68 := hide (E_59.out.trans (hb.mono E_59.out.size))
      have ON_70 := hide (own_belO ON_58.out hb)
      have BX_71 := hide (blk_kept BX_61.out hb)
      have NE_72 := hide (show g_66 ≠ b_51 by have h1 := (Array.getElem?_eq_some_iff.1 BX_61.out).1; have h2 := Q_69.out.1; omega)
      dsimp only
      refine hK.out _ _ ?_ (fun hHeld => ?_)
      · exact L8.keep4 hHeld hb (Nat.le_refl _)
      clear hK K hb ho
      try simp only [Act.put, List.setIfInBounds_toArray, List.set_cons_zero, List.set_cons_succ]
      refine wpAnyH_take (i := 11) (v := ?v12) rfl (by kernel_rfl) (by kernel_rfl) (by kernel_rfl) (fun _ _ _ h => by cases h.1) (Or.inl ⟨by rfl, ?y12⟩) (by assumption) ?r12
      case y12 => (intro w hSw; (try dsimp only at hSw); go_simp; try (with_reducible rfl))
      simp only [List.getElem_toArray, List.getElem_cons_succ, List.getElem_cons_zero, Act.put, List.setIfInBounds_toArray, List.set_cons_zero, List.set_cons_succ]
      refine wpAnyH_ready (rs := [13]) (by kernel_rfl) (by simp) ?_
      refine AllReadyH.cons rfl (fun K hK => ?_) AllReadyH.nil
      simp only [List.getElem_toArray, List.getElem_cons_succ, List.getElem_cons_zero]
      obtain ⟨z0, z1, z2, z3⟩ := blk4 BX_71.out
      obtain ⟨f0, f1, f2, f3⟩ := frz4 BX_71.out
      go_simp
      obtain ⟨wS_73, hS⟩ : ∃ x, ((((w_63.setCell ⟨b_51, 0, none⟩ (.slice (some ⟨g_57, 0, none⟩) n c_56)).setCell ⟨b_51, 1, none⟩ (.slice (some ⟨g_66, 0, none⟩) n c_65)).setCell ⟨b_51, 2, none⟩ (.int .i64 G)).setCell ⟨b_51, 3, none⟩ (.int .i64 (T + 1))) = x := ⟨_, rfl⟩
      have KB_74 := hide (show BxH W1 wS_73 b_51 W1.heap.size g_57 c_56 g_66 c_65 n G (T + 1) h.nm h.ct by rw [← hS]; exact bxh_made BX_71.out ON_70.out OC_67.out NE_62.out NE_72.out LB_53.out E_68.out.size E_68.out)
      rw [hS]
      refine hK.out _ _ ?_ (fun hHeld => ?_)
      · obtain ⟨h1, h2, h3, h4⟩ := blk4 (blk_kept K1W.out KB_74.out.B)
        exact ⟨⟨h1, h2, h3, h4⟩, KB_74.out.B⟩
      clear hK K z0 z1 z2 z3 f0 f1 f2 f3 hS
      try simp only [Act.put, List.setIfInBounds_toArray, List.set_cons_zero, List.set_cons_succ]
      refine wpAnyH_done (by kernel_rfl) ?_ _
      clear hHeld
      simp only [putK, Act.put, List.setIfInBounds_toArray, List.set_cons_zero, List.set_cons_succ]
      exact ⟨trivial, _, _, _, _, _, _, _, _, _, _, _, _, _, rfl, b_51, g_57, c_56, g_66, c_65, rfl, KB_74.out⟩
  intro v0 v1 v2 v3 v4 v5 v6 v7 v8 v9 v10 v11 v12 wS hR
  obtain ⟨zb, gN, cN, gC, cC, rfl, kx⟩ := hR
  clear k0 k1 k2 k3
  simp only [putK, Act.put, List.setIfInBounds_toArray, List.set_cons_zero, List.set_cons_succ]
  have KS := hide kx
  clear kx
  obtain ⟨kx0, kx1, kx2, kx3⟩ := blk4 KS.out.X
  go_wp2_with fail
  refine (CF.out _ _ _ _ _ KS.out.hf KS.out.capN).mono ?_
  rintro e w3 ⟨rfl, hb⟩
  have K3 := hide (KS.out.below hb KS.out.S)
  clear hb kx0 kx1 kx2 kx3
  obtain ⟨kx0, kx1, kx2, kx3⟩ := blk4 K3.out.X
  go_wp2_with fail
  refine (CT.out _ _ _ _ _ K3.out.hf).mono ?_
  rintro e w4 ⟨rfl, hb⟩
  have K4 := hide (K3.out.below hb K3.out.S)
  clear hb kx0 kx1 kx2 kx3
  have hpt := HP.out.le
  have htn := HK.out.le
  obtain ⟨kx0, kx1, kx2, kx3⟩ := blk4 K4.out.X
  cases hq : okf with
  | true =>
    obtain ⟨hp1, hp2⟩ := HOKF.out.1 hq
    have HE := hide (show h' = incH (upH h) p by rw [HH.out]; unfold addH; rw [if_pos ⟨hp1, hp2⟩])
    subst hq
    obtain ⟨cc, fc⟩ := K4.out.atC p (by omega)
    have hcb := HCT.out p (by omega)
    obtain ⟨y, hy⟩ : ∃ y, y = h.ct.getD p 0 := ⟨_, rfl⟩
    have hcb2 : 0 ≤ y ∧ y ≤ 1000000 := by rw [hy]; exact hcb
    rw [← hy] at cc
    have hpn : (p : Int) < (n : Int) := by omega
    have hpN : p < n := by omega
    have hwy : IntKind.i64.wrap (y + 1) = y + 1 := by
      simp only [IntKind.wrap, IntKind.bits, IntKind.signed]
      simp
      omega
    have KX := hide (show BxH W1 (w4.setCell ⟨gC, p, none⟩ (.int .i64 (y + 1))) zb W1.heap.size gN cN gC cC n h'.g h'.t h'.nm h'.ct by
      have k := K4.out.setC p (y + 1)
      rw [HE.out, show (incH (upH h) p).ct = h.ct.set p (y + 1) by rw [hy]; rfl, show (incH (upH h) p).nm = h.nm from rfl, show (incH (upH h) p).g = G from HGT.out.1, show (incH (upH h) p).t = T + 1 by rw [← HGT.out.2]; rfl]
      exact k)
    clear hcb hy
    go_upto_region 11 with fail
    clear cc fc kx0 kx1 kx2 kx3
    obtain ⟨kx0, kx1, kx2, kx3⟩ := blk4 KX.out.X
    go_wp2_with fail
    refine (CB.out _ _ _ _ _ KX.out.hf).mono ?_
    rintro e w9 ⟨rfl, hb⟩
    have KY := hide (KX.out.below hb (Nat.le_trans (Nat.le_refl _) KX.out.S))
    have B9 := hide (BQ1.out.trans (KY.out.B.mono BQ1.out.size))
    have Z9 := hide (blk_kept K2W.out KY.out.B)
    clear hb kx0 kx1 kx2 kx3
    cases ok with
    | false =>
      obtain rfl : L = e0H := HL.out
      obtain ⟨y0, y1, y2, y3⟩ := blk4 Z9.out
      obtain ⟨f0, f1, f2, f3⟩ := frz4 Z9.out
      have R9 := hide (set4 (a' := (.slice none 0 0)) (b' := (.slice none 0 0)) (c' := .int .i64 0) (d' := .int .i64 0) Z9.out)
      have B10 := hide (below4 B9.out (w.heap.size + 1) (by omega) (.slice none 0 0) (.slice none 0 0) (.int .i64 0) (.int .i64 0))
      go_wp2
      clear y0 y1 y2 y3 f0 f1 f2 f3
      obtain ⟨d0, d1, d2, d3⟩ := blk4 R9.out
      refine bodyPost_ret (v := .tuple #[hvV (.slice none 0 0) (.slice none 0 0) 0 0, .bool false]) (by simp [results, Try.f12, go_sem, d0, d1, d2, d3]) rfl ⟨_, _, rfl, rh_nil B10.out⟩
    | true =>
      obtain rfl : L = h' := HL.out
      obtain ⟨y0, y1, y2, y3⟩ := blk4 Z9.out
      obtain ⟨f0, f1, f2, f3⟩ := frz4 Z9.out
      obtain ⟨k0, k1, k2, k3⟩ := blk4 KY.out.X
      have R9 := hide (set4 (a' := (.slice (some ⟨gN, 0, none⟩) n cN)) (b' := (.slice (some ⟨gC, 0, none⟩) n cC)) (c' := .int .i64 L.g) (d' := .int .i64 L.t) Z9.out)
      have B10 := hide (below4 B9.out (w.heap.size + 1) (by omega) (.slice (some ⟨gN, 0, none⟩) n cN) (.slice (some ⟨gC, 0, none⟩) n cC) (.int .i64 L.g) (.int .i64 L.t))
      have O9 := hide ((show OwH w9 W1.heap.size (.slice (some ⟨gN, 0, none⟩) n cN) (.slice (some ⟨gC, 0, none⟩) n cC) n n L from ⟨KY.out.N, KY.out.C⟩).setC4 (w.heap.size + 1) (by have := SE.out; omega) (.slice (some ⟨gN, 0, none⟩) n cN) (.slice (some ⟨gC, 0, none⟩) n cC) (.int .i64 L.g) (.int .i64 L.t))
      go_wp2
      clear y0 y1 y2 y3 f0 f1 f2 f3 k0 k1 k2 k3
      obtain ⟨d0, d1, d2, d3⟩ := blk4 R9.out
      refine bodyPost_ret (v := .tuple #[hvV (.slice (some ⟨gN, 0, none⟩) n cN) (.slice (some ⟨gC, 0, none⟩) n cC) L.g L.t, .bool true]) (by simp [results, Try.f12, go_sem, d0, d1, d2, d3]) rfl ⟨_, _, rfl, ?_, B10.out⟩
      rw [HLN.out.1, HLN.out.2]
      exact O9.out.toBase (by have := SE.out; omega)
  | false =>
    have hpx : ¬ (p < tk ∧ na h p = s) := fun q => by have := HOKF.out.2 q; rw [hq] at this; cases this
    subst hq
    by_cases htk : tk < n
    · have htI : (tk : Int) < (n : Int) := by omega
      have HE := hide (show h' = putH (upH h) p s by rw [HH.out]; unfold addH; rw [if_neg hpx, if_pos htk])
      go_wp2_with fail
      refine (takePlace_any zb W1.heap.size gN cN gC cC n G (T + 1) h.nm h.ct W1 w4 p tk s K4.out (by omega) hpt htk (fun j h1 h2 => (HTL.out j h1 h2).1) (fun j h1 h2 => (HTL.out j h1 h2).2)).mono ?_
      rintro e w5 ⟨rfl, k⟩
      have KX := hide (show BxH W1 w5 zb W1.heap.size gN cN gC cC n h'.g h'.t h'.nm h'.ct by
        rw [HE.out, show (putH (upH h) p s).g = G from HGT.out.1, show (putH (upH h) p s).t = T + 1 by rw [← HGT.out.2]; rfl]
        exact k)
      clear k kx0 kx1 kx2 kx3
      obtain ⟨kx0, kx1, kx2, kx3⟩ := blk4 KX.out.X
      go_wp2_with fail
      refine (CB.out _ _ _ _ _ KX.out.hf).mono ?_
      rintro e w9 ⟨rfl, hb⟩
      have KY := hide (KX.out.below hb (Nat.le_trans (Nat.le_refl _) KX.out.S))
      have B9 := hide (BQ1.out.trans (KY.out.B.mono BQ1.out.size))
      have Z9 := hide (blk_kept K2W.out KY.out.B)
      clear hb kx0 kx1 kx2 kx3
      cases ok with
      | false =>
        obtain rfl : L = e0H := HL.out
        obtain ⟨y0, y1, y2, y3⟩ := blk4 Z9.out
        obtain ⟨f0, f1, f2, f3⟩ := frz4 Z9.out
        have R9 := hide (set4 (a' := (.slice none 0 0)) (b' := (.slice none 0 0)) (c' := .int .i64 0) (d' := .int .i64 0) Z9.out)
        have B10 := hide (below4 B9.out (w.heap.size + 1) (by omega) (.slice none 0 0) (.slice none 0 0) (.int .i64 0) (.int .i64 0))
        go_wp2
        clear y0 y1 y2 y3 f0 f1 f2 f3
        obtain ⟨d0, d1, d2, d3⟩ := blk4 R9.out
        refine bodyPost_ret (v := .tuple #[hvV (.slice none 0 0) (.slice none 0 0) 0 0, .bool false]) (by simp [results, Try.f12, go_sem, d0, d1, d2, d3]) rfl ⟨_, _, rfl, rh_nil B10.out⟩
      | true =>
        obtain rfl : L = h' := HL.out
        obtain ⟨y0, y1, y2, y3⟩ := blk4 Z9.out
        obtain ⟨f0, f1, f2, f3⟩ := frz4 Z9.out
        obtain ⟨k0, k1, k2, k3⟩ := blk4 KY.out.X
        have R9 := hide (set4 (a' := (.slice (some ⟨gN, 0, none⟩) n cN)) (b' := (.slice (some ⟨gC, 0, none⟩) n cC)) (c' := .int .i64 L.g) (d' := .int .i64 L.t) Z9.out)
        have B10 := hide (below4 B9.out (w.heap.size + 1) (by omega) (.slice (some ⟨gN, 0, none⟩) n cN) (.slice (some ⟨gC, 0, none⟩) n cC) (.int .i64 L.g) (.int .i64 L.t))
        have O9 := hide ((show OwH w9 W1.heap.size (.slice (some ⟨gN, 0, none⟩) n cN) (.slice (some ⟨gC, 0, none⟩) n cC) n n L from ⟨KY.out.N, KY.out.C⟩).setC4 (w.heap.size + 1) (by have := SE.out; omega) (.slice (some ⟨gN, 0, none⟩) n cN) (.slice (some ⟨gC, 0, none⟩) n cC) (.int .i64 L.g) (.int .i64 L.t))
        go_wp2
        clear y0 y1 y2 y3 f0 f1 f2 f3 k0 k1 k2 k3
        obtain ⟨d0, d1, d2, d3⟩ := blk4 R9.out
        refine bodyPost_ret (v := .tuple #[hvV (.slice (some ⟨gN, 0, none⟩) n cN) (.slice (some ⟨gC, 0, none⟩) n cC) L.g L.t, .bool true]) (by simp [results, Try.f12, go_sem, d0, d1, d2, d3]) rfl ⟨_, _, rfl, ?_, B10.out⟩
        rw [HLN.out.1, HLN.out.2]
        exact O9.out.toBase (by have := SE.out; omega)
    · have htI : ¬ (tk : Int) < (n : Int) := by omega
      have HE := hide (show h' = lessH (upH h) n by rw [HH.out]; unfold addH; rw [if_neg hpx, if_neg htk])
      go_wp2_with fail
      refine (takeOneOff_any zb W1.heap.size gN cN gC cC n G (T + 1) (upH h) W1 w4 K4.out (by omega) hbG (fun i hi => HCT.out i hi)).mono ?_
      rintro e w5 ⟨rfl, k⟩
      have KX := hide (show BxH W1 w5 zb W1.heap.size gN cN gC cC n h'.g h'.t h'.nm h'.ct by
        rw [HE.out, show (lessH (upH h) n).g = G + 1 by rw [← HGT.out.1]; rfl, show (lessH (upH h) n).t = T + 1 by rw [← HGT.out.2]; rfl]
        exact k)
      clear k kx0 kx1 kx2 kx3
      obtain ⟨kx0, kx1, kx2, kx3⟩ := blk4 KX.out.X
      go_wp2_with fail
      refine (CB.out _ _ _ _ _ KX.out.hf).mono ?_
      rintro e w9 ⟨rfl, hb⟩
      have KY := hide (KX.out.below hb (Nat.le_trans (Nat.le_refl _) KX.out.S))
      have B9 := hide (BQ1.out.trans (KY.out.B.mono BQ1.out.size))
      have Z9 := hide (blk_kept K2W.out KY.out.B)
      clear hb kx0 kx1 kx2 kx3
      cases ok with
      | false =>
        obtain rfl : L = e0H := HL.out
        obtain ⟨y0, y1, y2, y3⟩ := blk4 Z9.out
        obtain ⟨f0, f1, f2, f3⟩ := frz4 Z9.out
        have R9 := hide (set4 (a' := (.slice none 0 0)) (b' := (.slice none 0 0)) (c' := .int .i64 0) (d' := .int .i64 0) Z9.out)
        have B10 := hide (below4 B9.out (w.heap.size + 1) (by omega) (.slice none 0 0) (.slice none 0 0) (.int .i64 0) (.int .i64 0))
        go_wp2
        clear y0 y1 y2 y3 f0 f1 f2 f3
        obtain ⟨d0, d1, d2, d3⟩ := blk4 R9.out
        refine bodyPost_ret (v := .tuple #[hvV (.slice none 0 0) (.slice none 0 0) 0 0, .bool false]) (by simp [results, Try.f12, go_sem, d0, d1, d2, d3]) rfl ⟨_, _, rfl, rh_nil B10.out⟩
      | true =>
        obtain rfl : L = h' := HL.out
        obtain ⟨y0, y1, y2, y3⟩ := blk4 Z9.out
        obtain ⟨f0, f1, f2, f3⟩ := frz4 Z9.out
        obtain ⟨k0, k1, k2, k3⟩ := blk4 KY.out.X
        have R9 := hide (set4 (a' := (.slice (some ⟨gN, 0, none⟩) n cN)) (b' := (.slice (some ⟨gC, 0, none⟩) n cC)) (c' := .int .i64 L.g) (d' := .int .i64 L.t) Z9.out)
        have B10 := hide (below4 B9.out (w.heap.size + 1) (by omega) (.slice (some ⟨gN, 0, none⟩) n cN) (.slice (some ⟨gC, 0, none⟩) n cC) (.int .i64 L.g) (.int .i64 L.t))
        have O9 := hide ((show OwH w9 W1.heap.size (.slice (some ⟨gN, 0, none⟩) n cN) (.slice (some ⟨gC, 0, none⟩) n cC) n n L from ⟨KY.out.N, KY.out.C⟩).setC4 (w.heap.size + 1) (by have := SE.out; omega) (.slice (some ⟨gN, 0, none⟩) n cN) (.slice (some ⟨gC, 0, none⟩) n cC) (.int .i64 L.g) (.int .i64 L.t))
        go_wp2
        clear y0 y1 y2 y3 f0 f1 f2 f3 k0 k1 k2 k3
        obtain ⟨d0, d1, d2, d3⟩ := blk4 R9.out
        refine bodyPost_ret (v := .tuple #[hvV (.slice (some ⟨gN, 0, none⟩) n cN) (.slice (some ⟨gC, 0, none⟩) n cC) L.g L.t, .bool true]) (by simp [results, Try.f12, go_sem, d0, d1, d2, d3]) rfl ⟨_, _, rfl, ?_, B10.out⟩
        rw [HLN.out.1, HLN.out.2]
        exact O9.out.toBase (by have := SE.out; omega)
end Go.Proofs.Yticgejaaoamhmao.L15H

namespace Go.Proofs.Yticgejaaoamhmao.L15H
open Go.RowKit L1 Own Str
set_option linter.unusedVariables false

set_option maxRecDepth 100000 in
set_option maxHeartbeats 4000000 in
theorem sAddHeavy_any (a : Option Addr) (n c : Nat) (b : Option Addr) (m d : Nat) (G T : Int) (h : Hv) (s : ByteArray) (w : World) (hf : HF w a b n m h) (hg : h.g = G) (ht : h.t = T) (hn2 : n ≤ 1048576) (hm2 : m ≤ 1048576) (htx : ∀ i, i < h.nm.length → (h.nm.getD i e0).size ≤ 1048576) (hsS : s.size ≤ 9223372036854775807) (ok : Bool) (L : Hv) (hr : IsAddR h n m s ok L) :
    Calls Try.prog 10 #[.agg #[.slice a n c, .slice b m d, .int .i64 G, .int .i64 T], .string s] w fun e w' => ∃ v u, e = .returned (.tuple #[hvV v u L.g L.t, .bool ok]) ∧ RH w w' v u L := by
  obtain ⟨Z, hZ⟩ : ∃ x, x = hvO (.slice none 0 0) (.slice none 0 0) 0 0 := ⟨_, rfl⟩
  have q1 := L8.blk_new w (hvO (.slice a n c) (.slice b m d) G T)
  have q2 := L8.blk_new (w.alloc (hvO (.slice a n c) (.slice b m d) G T)) Z
  have k1 := blk_kept q1 ((Below.refl _ _).alloc (Nat.le_refl _) Z)
  have e1 : (w.alloc (hvO (.slice a n c) (.slice b m d) G T)).heap.size = w.heap.size + 1 := by simp
  have ez : ((w.alloc (hvO (.slice a n c) (.slice b m d) G T)).alloc Z).heap.size = w.heap.size + 2 := by simp
  have BX := ((Below.refl w.heap.size w).alloc (Nat.le_refl _) (hvO (.slice a n c) (.slice b m d) G T)).alloc (by simp) Z
  rw [e1] at q2
  obtain ⟨W0, hW0⟩ : ∃ W0, W0 = (w.alloc (hvO (.slice a n c) (.slice b m d) G T)).alloc Z := ⟨_, rfl⟩
  rw [← hW0] at BX q2 k1 ez
  rw [hZ] at q2 hW0
  have HW := hide hW0
  have BQ := hide BX
  have K1 := hide k1
  have K2 := hide q2
  have EZ := hide ez
  have F0 := hide (hf.below BX)
  clear BX hW0 q1 q2 k1 e1 ez hZ hf
  by_cases hgd : GoodHv h n m
  rotate_left
  · obtain ⟨rfl, rfl⟩ := hr.bad (fun q => hgd q.1)
    have CG := hide (sGoodHeavy_any a n c b m d G T h W0 F0.out hg ht hn2 hm2 htx false ⟨fun q => (by cases q), fun q => absurd q hgd⟩)
    clear hr hg ht
    go_enter Try.func10, Try.ntmps10
    go_upto_region 1 with fail
    rw [← HW.out]
    obtain ⟨k0, k1, k2, k3⟩ := blk4 K1.out
    go_wp2_with fail
    refine CG.out.mono ?_
    rintro e w1 ⟨rfl, hb⟩
    have B1 := hide (BQ.out.trans (hb.mono BQ.out.size))
    have Z1 := hide (blk_kept K2.out hb)
    clear hb k0 k1 k2 k3
    obtain ⟨y0, y1, y2, y3⟩ := blk4 Z1.out
    obtain ⟨f0, f1, f2, f3⟩ := frz4 Z1.out
    have R9 := hide (set4 (a' := (.slice none 0 0)) (b' := (.slice none 0 0)) (c' := .int .i64 0) (d' := .int .i64 0) Z1.out)
    have B9 := hide (below4 B1.out (w.heap.size + 1) (by omega) (.slice none 0 0) (.slice none 0 0) (.int .i64 0) (.int .i64 0))
    go_wp2
    clear y0 y1 y2 y3 f0 f1 f2 f3
    obtain ⟨d0, d1, d2, d3⟩ := blk4 R9.out
    refine bodyPost_ret (v := .tuple #[hvV (.slice none 0 0) (.slice none 0 0) 0 0, .bool false]) (by simp [results, Try.f10, go_sem, d0, d1, d2, d3]) rfl ⟨_, _, rfl, rh_nil B9.out⟩
  have CG := hide (sGoodHeavy_any a n c b m d G T h W0 F0.out hg ht hn2 hm2 htx true ⟨fun _ => hgd, fun _ => rfl⟩)
  by_cases hwd : L3.Word false s
  rotate_left
  · obtain ⟨rfl, rfl⟩ := hr.bad (fun q => hwd q.2)
    have CW := hide (fun wx => L3.l3Name_any s false wx hsS false ⟨fun q => (by cases q), fun q => absurd q hwd⟩)
    clear hr hg ht hgd
    go_enter Try.func10, Try.ntmps10
    go_upto_region 1 with fail
    rw [← HW.out]
    obtain ⟨k0, k1, k2, k3⟩ := blk4 K1.out
    go_wp2_with fail
    refine CG.out.mono ?_
    rintro e w1 ⟨rfl, hb⟩
    have B1 := hide (BQ.out.trans (hb.mono BQ.out.size))
    have Z1 := hide (blk_kept K2.out hb)
    clear hb k0 k1 k2 k3
    go_wp2_with fail
    refine (CW.out _).mono ?_
    rintro e w2 ⟨rfl, rfl⟩
    have Z2 := hide Z1.out
    have B2 := hide B1.out
    obtain ⟨y0, y1, y2, y3⟩ := blk4 Z2.out
    obtain ⟨f0, f1, f2, f3⟩ := frz4 Z2.out
    have R9 := hide (set4 (a' := (.slice none 0 0)) (b' := (.slice none 0 0)) (c' := .int .i64 0) (d' := .int .i64 0) Z2.out)
    have B9 := hide (below4 B2.out (w.heap.size + 1) (by omega) (.slice none 0 0) (.slice none 0 0) (.int .i64 0) (.int .i64 0))
    go_wp2
    clear y0 y1 y2 y3 f0 f1 f2 f3
    obtain ⟨d0, d1, d2, d3⟩ := blk4 R9.out
    refine bodyPost_ret (v := .tuple #[hvV (.slice none 0 0) (.slice none 0 0) 0 0, .bool false]) (by simp [results, Try.f10, go_sem, d0, d1, d2, d3]) rfl ⟨_, _, rfl, rh_nil B9.out⟩
  obtain rfl : m = n := hgd.m
  obtain ⟨tk, hk⟩ := tk_ex h.nm m
  obtain ⟨p, hp⟩ := at_ex s tk (hgd.rise hk)
  obtain ⟨h', hh⟩ : ∃ x, x = addH h m tk p s := ⟨_, rfl⟩
  obtain ⟨hok, hL⟩ := hr.good tk p hgd hwd hk hp
  have hln := addH_len (n := m) (m := m) (tk := tk) (p := p) (s := s) F0.out.ln F0.out.lc
  have hsz := addH_sz (n := m) (tk := tk) (p := p) (h := h) (show s.size ≤ 1048576 by have := hwd.1.2; omega) htx
  rw [← hh] at hok hL hln hsz
  have HLN := hide hln
  have CW := hide (fun wx => L3.l3Name_any s false wx hsS true ⟨fun _ => hwd, fun _ => rfl⟩)
  have CO := hide (fun wx hb => l15OwnHeavy_any a m c b m d G T h wx (F0.out.below hb) hn2 hm2)
  have CA := hide (fun base aN cN aC cC wx ho hb => l15Add_any base aN m cN aC cC G T h s tk p wx ho hb hg ht hgd hk hp (word_ne hwd) (by have h1 := hgd.t0; have h2 := hgd.t1; omega) h' hh)
  have CB := hide (fun wx aN cN aC cC (q : HF wx aN aC m m h') => sGoodHeavy_any aN m cN aC m cC h'.g h'.t h' wx q rfl rfl hn2 hn2 hsz ok hok)
  have HL := hide hL
  clear hr hg ht hgd hwd hk hp hh hok hL hln hsz htx
  go_enter Try.func10, Try.ntmps10
  go_upto_region 1 with fail
  rw [← HW.out]
  obtain ⟨k0, k1, k2, k3⟩ := blk4 K1.out
  go_wp2_with fail
  refine CG.out.mono ?_
  rintro e w1 ⟨rfl, hb⟩
  have B1 := hide hb
  clear hb k0 k1 k2 k3
  go_wp2_with fail
  refine (CW.out _).mono ?_
  rintro e w2 ⟨rfl, rfl⟩
  obtain ⟨k0, k1, k2, k3⟩ := blk4 (blk_kept K1.out B1.out)
  go_wp2_with fail
  refine (CO.out _ B1.out).mono ?_
  rintro e w2 ⟨v2, u2, rfl, ho2, hb2⟩
  obtain ⟨a2, c2, a3, c3, rfl, rfl, _⟩ := ho2.form
  have O2 := hide ho2
  have B2 := hide (B1.out.trans (hb2.mono B1.out.size))
  have S2 := hide hb2.size
  clear ho2 hb2 k0 k1 k2 k3
  go_wp2_with fail
  refine (CA.out _ _ _ _ _ _ O2.out S2.out).mono ?_
  rintro e w3 ⟨v3, u3, rfl, ho3, hb3⟩
  obtain ⟨a4, c4, a5, c5, rfl, rfl, hf3⟩ := ho3.form
  have B3 := hide (B2.out.trans (hb3.mono B1.out.size))
  have OB := hide (ho3.below ((Below.refl w3.heap.size w3).alloc (Nat.le_refl _) (hvO (.slice a4 m c4) (.slice a5 m c5) h'.g h'.t)))
  have X4 := hide (L8.blk_new w3 (hvO (.slice a4 m c4) (.slice a5 m c5) h'.g h'.t))
  have Z4 := hide (blk_kept (blk_kept K2.out B3.out) ((Below.refl _ _).alloc (Nat.le_refl _) (hvO (.slice a4 m c4) (.slice a5 m c5) h'.g h'.t)))
  have B4 := hide ((BQ.out.trans (B3.out.mono BQ.out.size)).alloc (Nat.le_trans BQ.out.size B3.out.size) (hvO (.slice a4 m c4) (.slice a5 m c5) h'.g h'.t))
  have S3 := hide (Nat.le_trans BQ.out.size B1.out.size)
  have SE := hide (show w.heap.size + 2 ≤ w1.heap.size by have h1 := EZ.out; have h2 := B1.out.size; omega)
  clear ho3 hb3 hf3
  go_upto_region 4 with fail
  obtain ⟨w4, hw4⟩ : ∃ y, y = w3.alloc (hvO (.slice a4 m c4) (.slice a5 m c5) h'.g h'.t) := ⟨_, rfl⟩
  rw [← hw4] at OB X4 Z4 B4
  rw [← hw4]
  clear hw4
  obtain ⟨k0, k1, k2, k3⟩ := blk4 X4.out
  go_wp2_with fail
  refine (CB.out _ _ _ _ _ OB.out.hf).mono ?_
  rintro e w5 ⟨rfl, hb⟩
  have B5 := hide (B4.out.trans (hb.mono B4.out.size))
  have Z5 := hide (blk_kept Z4.out hb)
  have X5 := hide (blk_kept X4.out hb)
  have O5 := hide (OB.out.below hb)
  clear hb k0 k1 k2 k3
  cases ok with
  | false =>
    obtain rfl : L = e0H := HL.out
    obtain ⟨y0, y1, y2, y3⟩ := blk4 Z5.out
    obtain ⟨f0, f1, f2, f3⟩ := frz4 Z5.out
    have R9 := hide (set4 (a' := (.slice none 0 0)) (b' := (.slice none 0 0)) (c' := .int .i64 0) (d' := .int .i64 0) Z5.out)
    have B9 := hide (below4 B5.out (w.heap.size + 1) (by omega) (.slice none 0 0) (.slice none 0 0) (.int .i64 0) (.int .i64 0))
    go_wp2
    clear y0 y1 y2 y3 f0 f1 f2 f3
    obtain ⟨d0, d1, d2, d3⟩ := blk4 R9.out
    refine bodyPost_ret (v := .tuple #[hvV (.slice none 0 0) (.slice none 0 0) 0 0, .bool false]) (by simp [results, Try.f10, go_sem, d0, d1, d2, d3]) rfl ⟨_, _, rfl, rh_nil B9.out⟩
  | true =>
    obtain rfl : L = h' := HL.out
    obtain ⟨y0, y1, y2, y3⟩ := blk4 Z5.out
    obtain ⟨f0, f1, f2, f3⟩ := frz4 Z5.out
    obtain ⟨k0, k1, k2, k3⟩ := blk4 X5.out
    have R9 := hide (set4 (a' := (.slice a4 m c4)) (b' := (.slice a5 m c5)) (c' := .int .i64 L.g) (d' := .int .i64 L.t) Z5.out)
    have B9 := hide (below4 B5.out (w.heap.size + 1) (by omega) (.slice a4 m c4) (.slice a5 m c5) (.int .i64 L.g) (.int .i64 L.t))
    have O9 := hide (O5.out.setC4 (w.heap.size + 1) (by have := SE.out; omega) (.slice a4 m c4) (.slice a5 m c5) (.int .i64 L.g) (.int .i64 L.t))
    go_wp2
    clear y0 y1 y2 y3 f0 f1 f2 f3 k0 k1 k2 k3
    obtain ⟨d0, d1, d2, d3⟩ := blk4 R9.out
    refine bodyPost_ret (v := .tuple #[hvV (.slice a4 m c4) (.slice a5 m c5) L.g L.t, .bool true]) (by simp [results, Try.f10, go_sem, d0, d1, d2, d3]) rfl ⟨_, _, rfl, ?_, B9.out⟩
    rw [HLN.out.1, HLN.out.2]
    exact O9.out.toBase (by have := SE.out; omega)
end Go.Proofs.Yticgejaaoamhmao.L15H

namespace Go.Proofs.Yticgejaaoamhmao.L15H
open Go.RowKit L1 Own Str
set_option linter.unusedVariables false

theorem addR_len {h : Hv} {n m : Nat} {s : ByteArray} {ok : Bool} {L : Hv} (hr : IsAddR h n m s ok L) (hn : h.nm.length = n) (hm : h.ct.length = m) : L.nm.length ≤ 6 ∧ L.ct.length ≤ 6 := by
  by_cases hg : GoodHv h n m ∧ L3.Word false s
  · obtain ⟨tk, hk⟩ := tk_ex h.nm n
    obtain ⟨p, hp⟩ := at_ex s tk (hg.1.rise hk)
    have hL := (hr.good tk p hg.1 hg.2 hk hp).2
    have h6 := hg.1.n6
    have hmn := hg.1.m
    have hl := addH_len (n := n) (m := n) (tk := tk) (p := p) (s := s) hn (by rw [hm, hmn])
    rw [hL]
    split
    · omega
    · simp [e0H]
  · rw [(hr.bad hg).2]
    simp [e0H]
end Go.Proofs.Yticgejaaoamhmao.L15H

namespace Go.Proofs.Yticgejaaoamhmao.Str
open Go.RowKit L1
set_option linter.unusedVariables false

set_option maxRecDepth 100000 in
set_option maxHeartbeats 1000000 in
theorem szStringS_any (a : Option Addr) (l : List ByteArray) (n cap : Nat) (L : Int) (w : World) (hn : l.length = n) (hm : n ≤ 9223372036854775807) (hs : SlS w a l) (hst : TxS l) (h0 : 0 ≤ L) (h1 : L ≤ 1048576) (r : Int) (hr : r = if (wtS l : Int) ≤ L then L - (wtS l : Int) else -1) :
    Calls Try.prog 18 #[.slice a n cap, .int .i64 L] w fun e w' => e = .returned (.int .i64 r) ∧ Below w.heap.size w w' := by
  have HR := hide hr
  have HS := hide hs
  have HN := hide hn
  have HST := hide hst
  clear hr hs hn hst
  have HW : Hid (wtS l = n + szsS l) := by show wtS l = n + szsS l; unfold wtS; rw [HN.out]
  by_cases ha : L - (n : Int) < 0
  · go_enter Try.func18, Try.ntmps18
    go_wp2
    go_ret
    exact ⟨by rw [HR.out, HW.out, if_neg (by omega)]; rfl, Below.refl _ _⟩
  · go_enter Try.func18, Try.ntmps18
    go_wp2
    go_loopw [1, 5] (fun t i wr => ∃ k : Nat, k ≤ n ∧ i = .int .i64 k ∧ t = .int .i64 (L - (n : Int) - (szsS (l.take k) : Int)) ∧ Hid ((szsS (l.take k) : Int) ≤ L - (n : Int)) ∧ Below w.heap.size w wr) (fun _ i _ => n - (intOf i).toNat)
    case atStart => exact ⟨0, Nat.zero_le _, rfl, by simp [szsS], by show (szsS (l.take 0) : Int) ≤ L - (n : Int); simp [szsS]; omega, Below.refl _ _⟩
    case round =>
      obtain ⟨k, hk, rfl, rfl, HK, hbel⟩ := hrel
      by_cases hlt : k < n
      · obtain ⟨b, off, rfl, hc0⟩ := HS.out k (by rw [HN.out]; exact hlt)
        have hc := (hbel.cell (p := ⟨b, off + k, none⟩) (blk_lt hc0)).trans hc0
        have hltI : (k : Int) < (n : Int) := by omega
        have hsx := HST.out k (by rw [HN.out]; exact hlt)
        have htk := szsS_take l k (by rw [HN.out]; exact hlt)
        have hle := szsS_le l (k + 1)
        obtain ⟨y, hy⟩ : ∃ y, y = l.getD k e0 := ⟨_, rfl⟩
        rw [← hy] at hc hsx htk
        obtain ⟨c, hcc⟩ : ∃ c, c = L - (n : Int) - (szsS (l.take k) : Int) := ⟨_, rfl⟩
        have hc0 : 0 ≤ c := by have := HK.out; omega
        have hc1 : c ≤ 1048576 := by omega
        rw [← hcc]
        have HC := hide hcc
        have HTK := hide htk
        have HLE := hide hle
        have B0 := hide hbel
        clear hy hcc htk hle hbel
        by_cases hfit : (y.size : Int) ≤ c
        · have hd0 : ¬ c - (y.size : Int) < 0 := by omega
          go_wp2
          go_roundw
          case rel => exact ⟨k + 1, by omega, by go_num, by rw [HC.out, HTK.out]; go_num, by show (szsS (l.take (k + 1)) : Int) ≤ L - (n : Int); have := HC.out; have := HTK.out; omega, B0.out⟩
          case measure => simp [intOf]; omega
        · have hd0 : c - (y.size : Int) < 0 := by omega
          have E : Hid (r = -1) := by show r = -1; have := HC.out; have := HTK.out; have := HLE.out; rw [HR.out, HW.out, if_neg (by omega)]
          go_wp2
          go_ret
          exact ⟨by rw [E.out]; rfl, B0.out⟩
      · obtain rfl : k = n := by omega
        have hltI : ¬ (k : Int) < (k : Int) := by omega
        have e1 : l.take k = l := List.take_of_length_le (by rw [HN.out]; exact Nat.le_refl _)
        rw [e1] at HK ⊢
        have E : Hid (r = L - (k : Int) - (szsS l : Int)) := by show r = _; have := HK.out; rw [HR.out, HW.out, if_pos (by omega)]; omega
        clear e1
        go_wp2
        go_ret
        exact ⟨by rw [E.out]; rfl, hbel⟩
end Go.Proofs.Yticgejaaoamhmao.Str
