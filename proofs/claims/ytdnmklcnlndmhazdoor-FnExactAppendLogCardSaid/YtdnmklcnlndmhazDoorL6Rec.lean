/-
  Contract: impl.recordAt: the record that begins at a place of a text, and the place behind it.
-/
import Derived.Test.YtdnmklcnlndmhazDoorL1GetVarint
import Derived.Test.YtdnmklcnlndmhazDoorL6Good
import Derived.OwnWalk
namespace Go.Proofs.YtdnmklcnlndmhazDoor.L6
open Go.RowKit L1
set_option linter.unusedVariables false

theorem slice_rec (w : World) (s : ByteArray) (c n : Nat) (h : c + n ≤ s.size) :
    (Instr.slice 9 (.string s) (some (.int .i64 (c : Int))) (some (.int .i64 ((c : Int) + (n : Int)))) none).run Tryd.prog w = .ok (.string (s.extract c (c + n))) w := by
  have h := run_slice_string (P := Tryd.prog) w 9 s .i64 .i64 (c : Int) ((c : Int) + (n : Int)) Tryd.underlying9 (by omega) (by omega) (by omega)
  rw [h]
  congr 4

set_option maxRecDepth 100000 in
set_option maxHeartbeats 1000000 in
theorem recordAt_none (s : ByteArray) (a : Nat) (w : World) (h : rc s a = none) (hs : s.size ≤ 1048576) (ht : Tab w) :
    Calls Tryd.prog 46 #[.string s, .int .i64 a] w fun e w' => e = .returned (.tuple #[.string ByteArray.empty, .int .i64 0, .bool false]) ∧ w = w' := by
  by_cases ha : a < s.size
  · have C := hide (getVarint_any s a w ha (by unfold maxLen; omega) ht)
    cases hg : gv (bts s a) with
    | none =>
      rw [hg] at C
      simp only [gvRes] at C
      clear hg ht h
      go_enter Tryd.func46, Tryd.ntmps46
      go_wp2_with fail
      refine C.out.mono ?_
      rintro e w1 ⟨rfl, rfl⟩
      go_wp2
      go_ret3
      exact ⟨rfl, rfl⟩
    | some l =>
      rw [hg] at C
      simp only [gvRes] at C
      have hf := gv_form (bts_mem s a) hg
      have hz := zag_lo (val l) (val_nonneg l) hf.2
      have hl := gv_some hg
      rw [bts_len] at hl
      have hno : ¬ (0 ≤ zag (val l) ∧ zag (val l) ≤ 20 ∧ zag (val l) ≤ (s.size : Int) - ((a + l.length : Nat) : Int)) := by
        intro hc
        unfold rc at h
        rw [hg] at h
        simp only [if_pos hc] at h
        cases h
      obtain ⟨z, hzz⟩ : ∃ z, z = zag (val l) := ⟨_, rfl⟩
      obtain ⟨e, hee⟩ : ∃ e, e = a + l.length := ⟨_, rfl⟩
      rw [← hzz] at C hz hno
      rw [← hee] at C hno
      have he : e ≤ s.size := by omega
      clear hg ht h hf hl hzz hee
      by_cases h1 : z < 0
      · go_enter Tryd.func46, Tryd.ntmps46
        go_wp2_with fail
        refine C.out.mono ?_
        rintro e w1 ⟨rfl, rfl⟩
        go_wp2
        go_ret3
        exact ⟨rfl, rfl⟩
      · by_cases h2 : (20 : Int) < z
        · go_enter Tryd.func46, Tryd.ntmps46
          go_wp2_with fail
          refine C.out.mono ?_
          rintro e w1 ⟨rfl, rfl⟩
          go_wp2
          go_ret3
          exact ⟨rfl, rfl⟩
        · have h3 : (s.size : Int) - (e : Int) < z := by omega
          clear hno
          go_enter Tryd.func46, Tryd.ntmps46
          go_wp2_with fail
          refine C.out.mono ?_
          rintro e w1 ⟨rfl, rfl⟩
          go_wp2
          go_ret3
          exact ⟨rfl, rfl⟩
  · have C := hide (getVarint_out s (a : Int) w (.inr (by omega)))
    clear h ht
    go_enter Tryd.func46, Tryd.ntmps46
    go_wp2_with fail
    refine C.out.mono ?_
    rintro e w1 ⟨rfl, rfl⟩
    go_wp2
    go_ret3
    exact ⟨rfl, rfl⟩

set_option maxRecDepth 100000 in
set_option maxHeartbeats 1000000 in
theorem recordAt_some (s : ByteArray) (a c n : Nat) (w : World) (h : rc s a = some (c, n)) (hs : s.size ≤ 1048576) (ht : Tab w) :
    Calls Tryd.prog 46 #[.string s, .int .i64 a] w fun e w' => e = .returned (.tuple #[.string (rtx s a), .int .i64 ((nx s a : Nat) : Int), .bool true]) ∧ w = w' := by
  obtain ⟨l, hg, hz, hc, hn, hle⟩ := rc_gv h
  have hl := gv_some hg
  rw [bts_len] at hl
  have C := hide (getVarint_any s a w (by omega) (by unfold maxLen; omega) ht)
  rw [hg] at C
  simp only [gvRes, hz, ← hc] at C
  rw [rtx_some h, nx_some h]
  have q := fun w => slice_rec w s c n hle
  have e1 : ((c + n : Nat) : Int) = (c : Int) + (n : Int) := by omega
  rw [e1]
  have h1 : ¬ (n : Int) < 0 := by omega
  have h2 : ¬ (20 : Int) < (n : Int) := by omega
  have h3 : ¬ (s.size : Int) - (c : Int) < (n : Int) := by omega
  clear hg hz hc hl ht h e1
  go_enter Tryd.func46, Tryd.ntmps46
  go_wp2_with fail
  refine C.out.mono ?_
  rintro e w1 ⟨rfl, rfl⟩
  go_wp2
  go_ret3
  exact ⟨rfl, rfl⟩
end Go.Proofs.YtdnmklcnlndmhazDoor.L6
