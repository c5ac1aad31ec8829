/-
  Contracts: spec.l1GetAll, spec.GetAll: of at most 600 bytes the numbers with this text, at most 60, in new memory, and true; else no list and false.
-/
import Derived.Test.YtlhmailmgpocbaaDoorL1Sl
import Derived.Test.YtlhmailmgpocbaaDoorL1AllMath
import Derived.Test.YtlhmailmgpocbaaDoorL1SpecGet
namespace Go.Proofs.YtlhmailmgpocbaaDoor.L1
open Go.RowKit
set_option linter.unusedVariables false

theorem bts_drop (s : ByteArray) (a m : Nat) : (bts s a).drop m = bts s (a + m) := by
  simp [bts, List.drop_drop]
theorem bts_end (s : ByteArray) (a : Nat) (h : s.size ≤ a) : bts s a = [] := by
  apply List.eq_nil_of_length_eq_zero
  rw [bts_len]
  omega

/-- A list that a call hands back, in new memory, and whether there is one. -/
def RetL (w : World) (r : Option (List Int)) (e : Ending) (w' : World) : Prop :=
  ∃ v, e = .returned (.tuple #[v, .bool r.isSome]) ∧ w'.ownsRow w.heap.size 3 1 v (r.getD []).length ((r.getD []).map (Value.int .i64)) ∧ Below w.heap.size w w'

set_option maxHeartbeats 1000000 in
theorem l1GetAll_any (s : ByteArray) (w : World) (hs : s.size ≤ 600) :
    Calls Tryd.prog 46 #[.string s] w fun e w' => RetL w (gall (bts s 0)) e w' := by
  obtain ⟨i0, hi, hz0, hz1, hz2⟩ := info_parts info_int
  go_enter Tryd.func46, Tryd.ntmps46
  go_wp2
  go_loopw [4, 5] (fun o i wr => ∃ (a : Nat) (xs : List Int), a ≤ s.size ∧ xs.length ≤ a ∧ i = .int .i64 a ∧ Hid (gall (bts s 0) = (gall (bts s a)).map fun r => xs ++ r) ∧
      wr.ownsRow w.heap.size 3 1 o xs.length (xs.map (Value.int .i64)) ∧ Below w.heap.size w wr) (fun _ i _ => s.size - (intOf i).toNat)
  case atStart => exact ⟨0, [], by omega, by simp, rfl, by show _ = _; cases gall (bts s 0) <;> simp, World.ownsRow_nil _ _ _ _, Below.refl _ _⟩
  case round =>
    obtain ⟨a, xs, ha, hxa, rfl, HG, hown, hbel⟩ := hrel
    by_cases hlt : a < s.size
    · have hltI : (a : Int) < (s.size : Int) := by omega
      have hgc := l1Get_any s a wr hlt (by omega)
      have h0 : 0 < (bts s a).length := by rw [bts_len]; omega
      cases hgv : gv (bts s a) with
      | none =>
        have hst := gall_stop h0 hgv HG.out
        rw [hgv] at hgc
        simp only [lgRes] at hgc
        have HC := hide hgc
        have HST := hide hst
        have HO := hide hown
        clear hgc hst hgv h0 hown
        go_wp2_with fail
        refine (unhide HC).mono ?_
        rintro e w1 ⟨rfl, hb1⟩
        go_wp2
        go_ret2
        exact ⟨_, by rw [HST.out]; rfl, by rw [HST.out]; exact World.ownsRow_nil _ _ _ _, hbel.trans (hb1.mono hbel.size)⟩
      | some l =>
        have hl := gv_some hgv
        rw [bts_len] at hl
        have hst := gall_step h0 hgv HG.out
        rw [bts_drop] at hst
        rw [hgv] at hgc
        simp only [lgRes] at hgc
        obtain ⟨m, hm⟩ : ∃ m, m = a + l.length := ⟨_, rfl⟩
        rw [← hm] at hgc hst
        have hm1 : a < m := by omega
        have hm2 : m ≤ s.size := by omega
        have hm0 : ¬ (m : Int) < 0 := by omega
        obtain ⟨x, hx⟩ : ∃ x, x = zag (val l) := ⟨_, rfl⟩
        rw [← hx] at hgc hst
        have HC := hide hgc
        have HST := hide hst
        clear hgc hst hgv h0 hm hx hl
        go_wp2_with fail
        refine (unhide HC).mono ?_
        rintro e w1 ⟨rfl, hb1⟩
        have hown1 := own_below hown hb1
        have hbel1 : Below w.heap.size w w1 := hbel.trans (hb1.mono hbel.size)
        clear hown hb1 hbel
        go_wp2_with (first
          | (at_builtin; refine wpList_append_own _ rfl _ _ 32 rfl w.heap.size 3 i0 (.int .i64 0) 1 8 Tryd.underlying32 hi hz0 hz1 hz2 rfl (by decide) _ _ _ rfl (hown1.alloc _) ⟨w1.heap.size, 0, none⟩ 1 1 [.int .i64 x] rfl rfl (cell_one_new _ _ _) (by intro u hu; simp at hu; subst hu; rfl) (by unfold maxLen; omega) (by omega) (by have := hbel1.size; simp; omega) ?_)
          | go_in)
        intro v' w2 hown' hgrow _
        have hb2 : Below w.heap.size w w2 := (hbel1.alloc hbel1.size _).grown hgrow (by have := hbel1.size; simp; omega) (fun k hk => (hown1.lt k hk).1)
        have hown2 : w2.ownsRow w.heap.size 3 1 v' (xs ++ [x]).length ((xs ++ [x]).map (Value.int .i64)) := by simpa using hown'
        clear hown' hgrow hown1
        go_wp2
        go_roundw
        case rel => exact ⟨m, xs ++ [x], hm2, by simp; omega, rfl, HST.out, hown2, hb2⟩
        case measure => simp [intOf]; omega
    · have hltI : ¬ (a : Int) < (s.size : Int) := by omega
      have hst : gall (bts s 0) = some xs := by
        rw [HG.out, bts_end s a (by omega), gall_nil]
        simp
      have HST := hide hst
      have HO := hide hown
      clear hst hown
      go_wp2
      go_ret2
      exact ⟨_, by rw [HST.out]; rfl, by rw [HST.out]; exact HO.out, hbel⟩

set_option maxHeartbeats 1000000 in
theorem specGetAll_any (s : ByteArray) (w : World) (hs : s.size ≤ 1048576) :
    Calls Tryd.prog 21 #[.string s] w fun e w' => RetL w (gaRes (bts s 0)) e w' := by
  have hlen := bts_len s 0
  simp only [Nat.sub_zero] at hlen
  by_cases h600 : 600 < (s.size : Int)
  · have e : gaRes (bts s 0) = none := by unfold gaRes; rw [if_neg (by omega)]
    have E := hide e
    clear e hlen
    go_enter Tryd.func21, Tryd.ntmps21
    go_wp2
    go_ret2
    exact ⟨_, by rw [E.out]; rfl, by rw [E.out]; exact World.ownsRow_nil _ _ _ _, Below.refl _ _⟩
  · have hc := l1GetAll_any s w (by omega)
    cases hg : gall (bts s 0) with
    | none =>
      have e : gaRes (bts s 0) = none := by unfold gaRes; rw [if_pos (by omega), hg]; rfl
      rw [hg] at hc
      have E := hide e
      have HC := hide hc
      clear e hc hg hlen
      go_enter Tryd.func21, Tryd.ntmps21
      go_wp2_with fail
      refine (unhide HC).mono ?_
      rintro e w1 ⟨v, rfl, ho, hb1⟩
      clear ho
      simp only [Option.isSome_none]
      go_wp2
      go_ret2
      exact ⟨_, by rw [E.out]; rfl, by rw [E.out]; exact World.ownsRow_nil _ _ _ _, hb1⟩
    | some xs =>
      rw [hg] at hc
      by_cases h60 : xs.length ≤ 60
      · have e : gaRes (bts s 0) = some xs := by unfold gaRes; rw [if_pos (by omega), hg]; simp [h60]
        have h60I : ¬ 60 < (xs.length : Int) := by omega
        have E := hide e
        have HC := hide hc
        clear e hc hg hlen
        go_enter Tryd.func21, Tryd.ntmps21
        go_wp2_with fail
        refine (unhide HC).mono ?_
        rintro e w1 ⟨v, rfl, ho, hb1⟩
        simp only [Option.isSome_some, Option.getD_some] at ho ⊢
        obtain ⟨a, cap, rfl, _, _⟩ := own_form ho
        have HO := hide ho
        clear ho
        go_wp2
        go_ret2
        exact ⟨_, by rw [E.out]; rfl, by rw [E.out]; exact HO.out, hb1⟩
      · have e : gaRes (bts s 0) = none := by unfold gaRes; rw [if_pos (by omega), hg]; simp [h60]
        have h60I : 60 < (xs.length : Int) := by omega
        have E := hide e
        have HC := hide hc
        clear e hc hg hlen
        go_enter Tryd.func21, Tryd.ntmps21
        go_wp2_with fail
        refine (unhide HC).mono ?_
        rintro e w1 ⟨v, rfl, ho, hb1⟩
        simp only [Option.isSome_some, Option.getD_some] at ho ⊢
        obtain ⟨a, cap, rfl, _, _⟩ := own_form ho
        clear ho
        go_wp2
        go_ret2
        exact ⟨_, by rw [E.out]; rfl, by rw [E.out]; exact World.ownsRow_nil _ _ _ _, hb1⟩
end Go.Proofs.YtlhmailmgpocbaaDoor.L1
