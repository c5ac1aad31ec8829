/-
  Contract: spec.l1GetAll: of at most 600 bytes the numbers with this text, in new memory, and true; else no list and false.
-/
import Derived.Test.YtapffbbmofhpoaaDoorL1Sl
import Derived.Test.YtapffbbmofhpoaaDoorL1AllMath
import Derived.Test.YtapffbbmofhpoaaDoorL1SpecGet
namespace Go.Proofs.YtapffbbmofhpoaaDoor.L1
open Go.RowKit
set_option linter.unusedVariables false

theorem bts_drop (s : ByteArray) (a m : Nat) : (bts s a).drop m = bts s (a + m) := by
  simp [bts, List.drop_drop]
theorem bts_end (s : ByteArray) (a : Nat) (h : s.size ≤ a) : bts s a = [] := by
  apply List.eq_nil_of_length_eq_zero
  rw [bts_len]
  omega

set_option maxRecDepth 100000 in
set_option maxHeartbeats 1000000 in
theorem l1GetAll_any (s : ByteArray) (w : World) (hs : s.size ≤ 600) :
    Calls Tryd.prog 88 #[.string s] w fun e w' => RetL w (gall (bts s 0)) e w' := by
  obtain ⟨i0, hi, hz0, hz1, hz2⟩ := info_parts info_int
  go_enter Tryd.func88, Tryd.ntmps88
  go_wp2
  go_loopw [4, 5] (fun o i wr => ∃ (a : Nat) (xs : List Int), a ≤ s.size ∧ xs.length ≤ a ∧ i = .int .i64 a ∧ Hid (gall (bts s 0) = (gall (bts s a)).map fun r => xs ++ r) ∧
      wr.ownsRow w.heap.size 3 1 o xs.length (xs.map (Value.int .i64)) ∧ Below w.heap.size w wr) (fun _ i _ => s.size - (intOf i).toNat)
  case atStart => exact ⟨0, [], by omega, by simp, rfl, by show _ = _; cases gall (bts s 0) <;> simp, World.ownsRow_nil _ _ _ _, Below.refl _ _⟩
  case round =>
    obtain ⟨a, xs, ha, hxa, rfl, HG, hown, hbel⟩ := hrel
    by_cases hlt : a < s.size
    · have hltI : (a : Int) < (s.size : Int) := by omega
      have hgc := l1Get_any s a wr hlt (by omega)
      have h0 : 0 < (bts s a).length := by rw [bts_len]; omega
      cases hgv : gv (bts s a) with
      | none =>
        have hst := gall_stop h0 hgv HG.out
        rw [hgv] at hgc
        simp only [lgRes] at hgc
        have HC := hide hgc
        have HST := hide hst
        have HO := hide hown
        clear hgc hst hgv h0 hown
        go_wp2_with fail
        refine (unhide HC).mono ?_
        rintro e w1 ⟨rfl, hb1⟩
        go_wp2
        go_ret2
        exact ⟨_, by rw [HST.out]; rfl, by rw [HST.out]; exact World.ownsRow_nil _ _ _ _, hbel.trans (hb1.mono hbel.size)⟩
      | some l =>
        have hl := gv_some hgv
        rw [bts_len] at hl
        have hst := gall_step h0 hgv HG.out
        rw [bts_drop] at hst
        rw [hgv] at hgc
        simp only [lgRes] at hgc
        obtain ⟨m, hm⟩ : ∃ m, m = a + l.length := ⟨_, rfl⟩
        rw [← hm] at hgc hst
        have hm1 : a < m := by omega
        have hm2 : m ≤ s.size := by omega
        have hm0 : ¬ (m : Int) < 0 := by omega
        obtain ⟨x, hx⟩ : ∃ x, x = zag (val l) := ⟨_, rfl⟩
        rw [← hx] at hgc hst
        have HC := hide hgc
        have HST := hide hst
        clear hgc hst hgv h0 hm hx hl
        go_wp2_with fail
        refine (unhide HC).mono ?_
        rintro e w1 ⟨rfl, hb1⟩
        have hown1 := own_below hown hb1
        have hbel1 : Below w.heap.size w w1 := hbel.trans (hb1.mono hbel.size)
        clear hown hb1 hbel
        go_wp2_with (first
          | (at_builtin; refine wpList_append_own _ rfl _ _ 32 rfl w.heap.size 3 i0 (.int .i64 0) 1 8 Tryd.underlying32 hi hz0 hz1 hz2 rfl (by decide) _ _ _ rfl (hown1.alloc _) ⟨w1.heap.size, 0, none⟩ 1 1 [.int .i64 x] rfl rfl (cell_one_new _ _ _) (by intro u hu; simp at hu; subst hu; rfl) (by unfold maxLen; omega) (by omega) (by have := hbel1.size; simp; omega) ?_)
          | go_in)
        intro v' w2 hown' hgrow _
        have hb2 : Below w.heap.size w w2 := (hbel1.alloc hbel1.size _).grown hgrow (by have := hbel1.size; simp; omega) (fun k hk => (hown1.lt k hk).1)
        have hown2 : w2.ownsRow w.heap.size 3 1 v' (xs ++ [x]).length ((xs ++ [x]).map (Value.int .i64)) := by simpa using hown'
        clear hown' hgrow hown1
        go_wp2
        go_roundw
        case rel => exact ⟨m, xs ++ [x], hm2, by simp; omega, rfl, HST.out, hown2, hb2⟩
        case measure => simp [intOf]; omega
    · have hltI : ¬ (a : Int) < (s.size : Int) := by omega
      have hst : gall (bts s 0) = some xs := by
        rw [HG.out, bts_end s a (by omega), gall_nil]
        simp
      have HST := hide hst
      have HO := hide hown
      clear hst hown
      go_wp2
      go_ret2
      exact ⟨_, by rw [HST.out]; rfl, by rw [HST.out]; exact HO.out, hbel⟩
end Go.Proofs.YtapffbbmofhpoaaDoor.L1
