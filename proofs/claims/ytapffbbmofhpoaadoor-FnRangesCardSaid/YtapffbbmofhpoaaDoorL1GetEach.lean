/-
  Contract: impl.getEach: the numbers with a text, at most so many, in new memory, and true; else no list and false.
-/
import Derived.Test.YtapffbbmofhpoaaDoorL1SpecReadAll
import Derived.Test.YtapffbbmofhpoaaDoorL1GetVarint
namespace Go.Proofs.YtapffbbmofhpoaaDoor.L1
open Go.RowKit
set_option linter.unusedVariables false

/-- The numbers of a text that are at most M. -/
def geRes (M : Nat) (t : List Int) : Option (List Int) := (gall t).bind (fun xs => if xs.length ≤ M then some xs else none)
theorem geRes_none {M : Nat} {t : List Int} (h : gall t = none) : geRes M t = none := by unfold geRes; rw [h]; simp
theorem geRes_over {M : Nat} {t : List Int} (h : ∀ ys, gall t = some ys → M < ys.length) : geRes M t = none := by
  unfold geRes
  cases hg : gall t with
  | none => simp
  | some ys =>
    have := h ys hg
    simp
    omega

set_option maxRecDepth 100000 in
set_option maxHeartbeats 1000000 in
theorem getEach_any (M : Nat) (hM : M ≤ 81) (s : ByteArray) (w : World) (hs : s.size ≤ 1048576) (ht : Tab w) :
    Calls Tryd.prog 87 #[.string s, .int .i64 (M : Int)] w fun e w' => RetL w (geRes M (bts s 0)) e w' := by
  have HT := hide ht
  clear ht
  obtain ⟨i0, hi, hz0, hz1, hz2⟩ := info_parts info_int
  go_enter Tryd.func87, Tryd.ntmps87
  go_wp2
  go_loopw [6, 7] (fun o i wr => ∃ (a : Nat) (xs : List Int), a ≤ s.size ∧ xs.length ≤ M ∧ i = .int .i64 a ∧ Hid (gall (bts s 0) = (gall (bts s a)).map fun r => xs ++ r) ∧
      wr.ownsRow w.heap.size 3 1 o xs.length (xs.map (Value.int .i64)) ∧ Below w.heap.size w wr) (fun _ i _ => s.size - (intOf i).toNat)
  case atStart => exact ⟨0, [], by omega, by simp, rfl, by show _ = _; cases gall (bts s 0) <;> simp, World.ownsRow_nil _ _ _ _, Below.refl _ _⟩
  case round =>
    obtain ⟨a, xs, ha, hxa, rfl, HG, hown, hbel⟩ := hrel
    obtain ⟨oa, ocap, rfl, _, _⟩ := own_form hown
    by_cases hlt : a < s.size
    · have hltI : (a : Int) < (s.size : Int) := by omega
      have hgc := getVarint_any s a wr hlt (by unfold maxLen; omega) (HT.out.below hbel)
      have h0 : 0 < (bts s a).length := by rw [bts_len]; omega
      cases hgv : gv (bts s a) with
      | none =>
        have hst := geRes_none (M := M) (gall_stop h0 hgv HG.out)
        rw [hgv] at hgc
        simp only [gvRes] at hgc
        have HC := hide hgc
        have HST := hide hst
        clear hgc hst hgv h0 hown
        go_wp2_with fail
        refine (unhide HC).mono ?_
        rintro e w1 ⟨rfl, rfl⟩
        go_wp2
        go_ret2
        exact ⟨_, by rw [HST.out]; rfl, by rw [HST.out]; exact World.ownsRow_nil _ _ _ _, hbel⟩
      | some l =>
        have hl := gv_some hgv
        rw [bts_len] at hl
        have hst := gall_step h0 hgv HG.out
        rw [bts_drop] at hst
        rw [hgv] at hgc
        simp only [gvRes] at hgc
        obtain ⟨m, hm⟩ : ∃ m, m = a + l.length := ⟨_, rfl⟩
        rw [← hm] at hgc hst
        have hm1 : a < m := by omega
        have hm2 : m ≤ s.size := by omega
        obtain ⟨x, hx⟩ : ∃ x, x = zag (val l) := ⟨_, rfl⟩
        rw [← hx] at hgc hst
        have HC := hide hgc
        have HST := hide hst
        clear hgc hst hgv h0 hm hx hl
        by_cases h60 : xs.length = M
        · have h60I : ((xs.length : Int) == (M : Int)) = true := by simp; omega
          have hov : geRes M (bts s 0) = none := geRes_over (M := M) (fun ys hy => by
            have := gall_over HST.out hy
            simp at this
            omega)
          have HOV := hide hov
          clear h60 hov hown
          go_wp2_with fail
          refine (unhide HC).mono ?_
          rintro e w1 ⟨rfl, rfl⟩
          go_wp2
          go_ret2
          exact ⟨_, by rw [HOV.out]; rfl, by rw [HOV.out]; exact World.ownsRow_nil _ _ _ _, hbel⟩
        · have h60I : ((xs.length : Int) == (M : Int)) = false := by simp; omega
          have hx2 : xs.length + 1 ≤ M := by omega
          clear h60
          go_wp2_with fail
          refine (unhide HC).mono ?_
          rintro e w1 ⟨rfl, rfl⟩
          go_wp2_with (first
            | (at_builtin; refine wpList_append_own _ rfl _ _ 32 rfl w.heap.size 3 i0 (.int .i64 0) 1 8 Tryd.underlying32 hi hz0 hz1 hz2 rfl (by decide) _ _ _ rfl (hown.alloc _) ⟨wr.heap.size, 0, none⟩ 1 1 [.int .i64 x] rfl rfl (cell_one_new _ _ _) (by intro u hu; simp at hu; subst hu; rfl) (by unfold maxLen; omega) (by omega) (by have := hbel.size; simp; omega) ?_)
            | go_in)
          intro v' w2 hown' hgrow _
          have hb2 : Below w.heap.size w w2 := (hbel.alloc hbel.size _).grown hgrow (by have := hbel.size; simp; omega) (fun k hk => (hown.lt k hk).1)
          have hown2 : w2.ownsRow w.heap.size 3 1 v' (xs ++ [x]).length ((xs ++ [x]).map (Value.int .i64)) := by simpa using hown'
          clear hown' hgrow hown
          go_wp2
          go_roundw
          case rel => exact ⟨m, xs ++ [x], hm2, by simp; omega, rfl, HST.out, hown2, hb2⟩
          case measure => simp [intOf]; omega
    · have hltI : ¬ (a : Int) < (s.size : Int) := by omega
      have hst : geRes M (bts s 0) = some xs := by
        have hg : gall (bts s 0) = some xs := by
          rw [HG.out, bts_end s a (by omega), gall_nil]
          simp
        unfold geRes
        rw [hg]
        simp [hxa]
      have HST := hide hst
      have HO := hide hown
      clear hst hown
      go_wp2
      go_ret2
      exact ⟨_, by rw [HST.out]; rfl, by rw [HST.out]; exact HO.out, hbel⟩
end Go.Proofs.YtapffbbmofhpoaaDoor.L1
