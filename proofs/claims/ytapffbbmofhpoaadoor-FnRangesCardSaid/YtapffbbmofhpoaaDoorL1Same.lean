/-
  Contracts: laws.sameInts says that two lists alike are alike; spec.ZigZag; and what is put comes back.
-/
import Derived.Test.YtapffbbmofhpoaaDoorL1SpecGetAll
import Derived.Test.YtapffbbmofhpoaaDoorL1SpecPutAll
import Derived.Test.YtapffbbmofhpoaaDoorL1LawMath
import Derived.Test.YtapffbbmofhpoaaDoorL1GetVarint
import Derived.Test.YtapffbbmofhpoaaDoorL1Bytes
import Derived.Deep.QuietTactic
import Derived.BigQuiet
namespace Go.Proofs.YtapffbbmofhpoaaDoor.L1
open Go.RowKit
set_option linter.unusedVariables false

set_option maxRecDepth 100000 in
set_option maxHeartbeats 1000000 in
theorem sameInts_same (a b : Option Addr) (xs : List Int) (n c1 c2 : Nat) (w : World) (hn : xs.length = n) (ha : Sl w a xs) (hb : Sl w b xs) (hn2 : n ≤ 1048576) :
    Calls Tryd.prog 25 #[.slice a n c1, .slice b n c2] w fun e w' => e = .returned (.bool true) ∧ Below w.heap.size w w' := by
  have HA := hide ha
  have HB := hide hb
  have HN := hide hn
  clear ha hb hn
  go_enter Tryd.func25, Tryd.ntmps25
  go_wp2
  go_loopw [13] (fun i wr => ∃ k : Nat, k ≤ n ∧ i = .int .i64 k ∧ Below w.heap.size w wr) (fun i _ => n - (intOf i).toNat)
  case atStart => exact ⟨0, Nat.zero_le _, rfl, Below.refl _ _⟩
  case round =>
    obtain ⟨k, hk, rfl, hbel⟩ := hrel
    by_cases hlt : k < n
    · obtain ⟨b1, o1, rfl, h1⟩ := HA.out k (by rw [HN.out]; exact hlt)
      obtain ⟨b2, o2, rfl, h2⟩ := HB.out k (by rw [HN.out]; exact hlt)
      have g1 : wr.cell? ⟨b1, o1 + k, none⟩ = some (.int .i64 (xs.getD k 0)) := by
        rw [hbel.cell (p := ⟨b1, o1 + k, none⟩) (blk_lt h1)]
        exact h1
      have g2 : wr.cell? ⟨b2, o2 + k, none⟩ = some (.int .i64 (xs.getD k 0)) := by
        rw [hbel.cell (p := ⟨b2, o2 + k, none⟩) (blk_lt h2)]
        exact h2
      obtain ⟨x, hx⟩ : ∃ x, x = xs.getD k 0 := ⟨_, rfl⟩
      rw [← hx] at g1 g2
      have hltI : (k : Int) < (n : Int) := by omega
      clear h1 h2 hx
      go_wp2
      go_quiet (fail)
      go_wp2
      go_roundw
      case rel => exact ⟨k + 1, by omega, by go_num, below_drewN hbel _⟩
      case measure => simp [intOf]; omega
    · have hltI : ¬ (k : Int) < (n : Int) := by omega
      go_wp2
      go_ret
      exact ⟨rfl, hbel⟩

set_option maxRecDepth 100000 in
set_option maxHeartbeats 400000 in
theorem specZig_yes (n : Int) (w : World) (h1 : -1000000000000 ≤ n) (h2 : n ≤ 1000000000000) :
    Calls Tryd.prog 12 #[.int .i64 n] w fun e w' => e = .returned (.tuple #[.int .i64 (zig n), .bool true]) ∧ w = w' := by
  have hz := fun w => l1Zig_any n w h1 h2
  have HZ := hide hz
  clear hz
  go_enter Tryd.func12, Tryd.ntmps12
  go_wp2_with (first | (go_at_call 78; refine (unhide HZ _).mono ?_; rintro e w1 ⟨rfl, rfl⟩) | go_in)
  go_ret2
  exact ⟨rfl, rfl⟩
set_option maxRecDepth 100000 in
set_option maxHeartbeats 400000 in
theorem specZig_no (n : Int) (w : World) (h : ¬ (-1000000000000 ≤ n ∧ n ≤ 1000000000000)) :
    Calls Tryd.prog 12 #[.int .i64 n] w fun e w' => e = .returned (.tuple #[.int .i64 0, .bool false]) ∧ w = w' := by
  by_cases h1 : -1000000000000 ≤ n
  · have h2 : ¬ n ≤ 1000000000000 := fun h2 => h ⟨h1, h2⟩
    clear h
    go_enter Tryd.func12, Tryd.ntmps12
    go_wp2
    go_ret2
    exact ⟨rfl, rfl⟩
  · clear h
    go_enter Tryd.func12, Tryd.ntmps12
    go_wp2
    go_ret2
    exact ⟨rfl, rfl⟩

theorem bts_str (l : List Int) (h : ∀ x ∈ l, 0 ≤ x ∧ x < 256) : bts (strOfNums l) 0 = l := by
  simp only [bts, strOfNums, List.drop_zero, List.map_map]
  have : ∀ l : List Int, (∀ x ∈ l, 0 ≤ x ∧ x < 256) → l.map ((fun c : UInt8 => (c.toNat : Int)) ∘ fun n : Int => UInt8.ofNat n.toNat) = l := by
    intro l
    induction l with
    | nil => intro _; rfl
    | cons x l ih =>
      intro hl
      have hx := hl x (by simp)
      rw [List.map_cons, ih (fun y hy => hl y (by simp [hy]))]
      congr 1
      simp only [Function.comp, UInt8.toNat_ofNat']
      omega
  exact this l h
theorem vd_bytes (z : Int) (h1 : 0 ≤ z) (h2 : z ≤ 2000000000000) : ∀ x ∈ vd z, 0 ≤ x ∧ x < 256 := vdf_byte 5 z h1 (by simp [wor]; omega)

/-- What is put comes back. -/
theorem get_back (n : Int) (w : World) (h1 : -1000000000000 ≤ n) (h2 : n ≤ 1000000000000) (ht : Tab w) :
    Calls Tryd.prog 15 #[.string (strOfNums (vd (zig n))), .int .i64 0] w fun e w' => e = .returned (.tuple #[.int .i64 n, .int .i64 ((vd (zig n)).length : Nat), .bool true]) ∧ w = w' := by
  have hz := zig_lo n
  have hz2 := zig_hi n h1 h2
  have hp := vdf_pos 5 (zig n)
  have hl := vdf_le 5 (zig n)
  have hg := gv_vd (zig n) [] hz hz2
  have h := getVarint_any (strOfNums (vd (zig n))) 0 w (by rw [strOfNums_size]; exact hp) (by rw [strOfNums_size]; unfold maxLen; unfold vd; omega) ht
  rw [bts_str _ (vd_bytes _ hz hz2)] at h
  rw [List.append_nil] at hg
  rw [hg] at h
  simp only [gvRes, val_vd _ hz hz2, zag_zig, Nat.zero_add] at h
  exact h

theorem cat_bytes : ∀ (xs : List Int), (∀ x ∈ xs, -1000000000000 ≤ x ∧ x ≤ 1000000000000) → ∀ y ∈ cat xs, 0 ≤ y ∧ y < 256
  | [], _, y, hy => by simp [cat] at hy
  | n :: l, h, y, hy => by
    have hn := h n (by simp)
    simp only [cat, List.mem_append] at hy
    rcases hy with hy | hy
    · exact vd_bytes (zig n) (zig_lo n) (zig_hi n hn.1 hn.2) y hy
    · exact cat_bytes l (fun x hx => h x (by simp [hx])) y hy
theorem gall_cat : ∀ (xs : List Int), (∀ x ∈ xs, -1000000000000 ≤ x ∧ x ≤ 1000000000000) → gall (cat xs) = some xs
  | [], _ => rfl
  | n :: l, h => by
    have hn := h n (by simp)
    have hg := gv_vd (zig n) (cat l) (zig_lo n) (zig_hi n hn.1 hn.2)
    have hp : 0 < (vd (zig n) ++ cat l).length := by have := vdf_pos 5 (zig n); simp [vd]; omega
    show gall (vd (zig n) ++ cat l) = _
    rw [gall_some hp hg, List.drop_left, gall_cat l (fun x hx => h x (by simp [hx])), val_vd _ (zig_lo n) (zig_hi n hn.1 hn.2), zag_zig]
    rfl
theorem okL_mem {xs : List Int} (h : OkL xs) : ∀ x ∈ xs, -1000000000000 ≤ x ∧ x ≤ 1000000000000 := by
  intro x hx
  obtain ⟨j, hj, rfl⟩ := List.getElem_of_mem hx
  have := h j hj
  simpa [List.getD, List.getElem?_eq_getElem hj] using this
theorem gaRes_le (t : List Int) : ((gaRes t).getD []).length ≤ 60 := by
  unfold gaRes
  split
  · cases gall t with
    | none => simp
    | some xs =>
      simp only [Option.bind_some]
      split
      · simpa
      · simp
  · simp
theorem gaRes_cat {xs : List Int} (h : OkL xs) (hl : xs.length ≤ 60) : gaRes (cat xs) = some xs := by
  have h1 := gall_cat xs (okL_mem h)
  have h2 := cat_len xs
  unfold gaRes
  rw [if_pos (by omega), h1]
  simp [hl]
end Go.Proofs.YtapffbbmofhpoaaDoor.L1
