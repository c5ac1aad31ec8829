/-
  One record put behind the others.
-/
import Derived.Test.YtdnmklcnlndmhazDoorL6Math
namespace Go.Proofs.YtdnmklcnlndmhazDoor.L6
open Go.RowKit L1
set_option linter.unusedVariables false

theorem bts_nums6 (l : List Int) (h : ∀ x ∈ l, 0 ≤ x ∧ x < 256) : bts (strOfNums l) 0 = l := by
  simp only [bts, strOfNums, List.drop_zero, List.map_map]
  have e : ∀ m : List Int, (∀ x ∈ m, 0 ≤ x ∧ x < 256) → m.map ((fun c : UInt8 => (c.toNat : Int)) ∘ fun n : Int => UInt8.ofNat n.toNat) = m := by
    intro m
    induction m with
    | nil => intro _; rfl
    | cons x m ih =>
      intro hm
      have hx := hm x (by simp)
      rw [List.map_cons, ih (fun u hu => hm u (by simp [hu]))]
      congr 1
      simp only [Function.comp, UInt8.toNat_ofNat']
      omega
  exact e l h
theorem zig_small (n : Nat) (h : n ≤ 20) : 0 ≤ zig (n : Int) ∧ zig (n : Int) ≤ 40 := by unfold zig; split <;> omega
theorem vd_small (n : Nat) (h : n ≤ 20) : vd (zig (n : Int)) = [zig (n : Int)] := by
  have hz := zig_small n h
  unfold vd
  rw [vdf]
  rw [if_pos (by omega)]
theorem rec_bts (r : ByteArray) (h : r.size ≤ 20) : bts (rec r) 0 = vd (zig (r.size : Int)) ++ bts r 0 := by
  unfold rec
  rw [bts_append, bts_nums6]
  rw [vd_small _ h]
  intro x hx
  have := zig_small _ h
  simp at hx
  omega
theorem rec_size (r : ByteArray) (h : r.size ≤ 20) : (rec r).size = 1 + r.size := by
  have h1 := bts_len (rec r) 0
  rw [rec_bts r h, vd_small _ h] at h1
  have h2 := bts_len r 0
  simp at h1
  omega
theorem app_size (s r : ByteArray) (h : r.size ≤ 20) : (s ++ rec r).size = s.size + (1 + r.size) := by rw [ByteArray.size_append, rec_size r h]
/-- The record that stands behind a text. -/
theorem app_rc (s r : ByteArray) (h : r.size ≤ 20) : rc (s ++ rec r) s.size = some (s.size + 1, r.size) := by
  have hz := zig_small _ h
  have e1 : bts (s ++ rec r) s.size = vd (zig (r.size : Int)) ++ bts r 0 := by
    rw [bts_at, bts_append, rec_bts r h]
    have hl : (bts s 0).length = s.size := by rw [bts_len]; omega
    rw [← hl, List.drop_left]
  have e2 : gv (bts (s ++ rec r) s.size) = some (vd (zig (r.size : Int))) := by rw [e1, gv_vd _ _ hz.1 (by omega)]
  have e3 : zag (val (vd (zig (r.size : Int)))) = (r.size : Int) := by rw [val_vd _ hz.1 (by omega), zag_zig]
  have e4 : (vd (zig (r.size : Int))).length = 1 := by rw [vd_small _ h]; rfl
  have e5 := app_size s r h
  unfold rc
  rw [e2]
  simp only [e3, e4]
  rw [if_pos ⟨by omega, by omega, by omega⟩]
  simp
theorem app_cnt (s r : ByteArray) (hw : wh s = s.size) (h : r.size ≤ 20) : cnt (s ++ rec r) = cnt s + 1 ∧ (∀ j, j ≤ cnt s → pl (s ++ rec r) 0 j = pl s 0 j) ∧ wh (s ++ rec r) = (s ++ rec r).size := by
  have hz := app_size s r h
  have hp : pl s 0 (cnt s) = s.size := hw
  have E := pl_ext (t := s ++ rec r) (cnt s) (Nat.le_refl _) (by omega) (by
    rw [bts_append, hp]
    have hl : (bts s 0).length = s.size := by rw [bts_len]; omega
    rw [← hl, List.take_left, List.take_length])
  have hr := app_rc s r h
  have e1 : pl (s ++ rec r) 0 (cnt s) = s.size := ((E _ (Nat.le_refl _)).1).trans hp
  have e2 : pl (s ++ rec r) 0 (cnt s + 1) = (s ++ rec r).size := by
    show nx (s ++ rec r) (pl (s ++ rec r) 0 (cnt s)) = _
    rw [e1, nx_some hr]
    omega
  have e3 : cnt (s ++ rec r) = cnt s + 1 := by
    refine cnt_unique _ _ (fun j hj => ?_) (by rw [e2]; exact rc_end (Nat.le_refl _))
    by_cases e : j = cnt s
    · subst e
      rw [e1, hr]
      intro hh; cases hh
    · rw [(E j (by omega)).2 (by omega)]
      exact cnt_yes s j (by omega)
  exact ⟨e3, fun j hj => (E j hj).1, by unfold wh; rw [e3, e2]⟩
theorem rec_alone (r : ByteArray) (h : r.size ≤ 20) : cnt (rec r) = 1 ∧ wh (rec r) = (rec r).size := by
  have hc : cnt ByteArray.empty = 0 := cnt_unique _ 0 (fun j hj => absurd hj (Nat.not_lt_zero _)) (rc_end (Nat.le_refl _))
  have hw : wh ByteArray.empty = ByteArray.empty.size := by unfold wh; rw [hc]; rfl
  have e : ByteArray.empty ++ rec r = rec r := by
    apply ByteArray.ext
    simp
  have := app_cnt ByteArray.empty r hw h
  rw [e, hc] at this
  exact ⟨this.1, this.2.2⟩
end Go.Proofs.YtdnmklcnlndmhazDoor.L6
