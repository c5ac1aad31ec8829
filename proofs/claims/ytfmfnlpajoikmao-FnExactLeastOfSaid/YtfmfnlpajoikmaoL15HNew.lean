/-
  Contracts: impl.NewHeavy, spec.NewHeavy.
-/
import Derived.Test.YtfmfnlpajoikmaoL15HMem
import Derived.Test.YtfmfnlpajoikmaoIn
import Derived.Test.YtfmfnlpajoikmaoStr
import Derived.Deep.RegionHeld3
import Derived.Deep.DeepCutAuto
namespace Go.Proofs.Ytfmfnlpajoikmao.L15H
open Go.RowKit L1 Own Str
set_option linter.unusedVariables false

/-- A new Heavy. -/
def newH (x : Int) (ok : Bool) : Hv := if ok then ⟨List.replicate x.toNat e0, List.replicate x.toNat 0, 0, 0⟩ else e0H
theorem newH_len (x : Int) (ok : Bool) (hok : ok = true ↔ 1 ≤ x ∧ x ≤ 6) : (newH x ok).nm.length ≤ 6 ∧ (newH x ok).ct.length ≤ 6 := by
  cases ok with
  | false => simp [newH, e0H]
  | true =>
    obtain ⟨h1, h6⟩ := hok.1 rfl
    simp [newH]
    omega
theorem bool_noH {b : Bool} {p : Prop} (h : b = true ↔ p) (hp : ¬ p) : b = false := by
  cases b with
  | true => exact absurd (h.1 rfl) hp
  | false => rfl
theorem own_madeH {w : World} {base g n : Nat} {z : Value} {t : TypeId} (hz : z.cells = #[z]) (h : w.heap[g]? = some (.cells (madeCells z.cells (n * 1)) t (0, 0))) (hb : base ≤ g) (hn : n ≤ maxLen) : w.ownsRow base t 1 (.slice (some ⟨g, 0, none⟩) n n) n (List.replicate n z) := by
  have e : (madeCells z.cells (n * 1)).toList = List.replicate n z := by
    rw [hz, Nat.mul_one, toList_madeCells_one]
  have e2 : (madeCells z.cells (n * 1)).size = n * 1 := size_madeCells _ _
  exact ⟨by simp, .inr ⟨g, n, _, rfl, hb, h, Nat.le_refl _, hn, e2, by rw [e]; simp⟩⟩
theorem mk_names (n : Nat) (h : n ≤ 6) : ∃ OA : Obj, (∀ w : World, (w.alloc OA).ownsRow w.heap.size 9 1 (.slice (some ⟨w.heap.size, 0, none⟩) n n) n (mapS (List.replicate n e0))) ∧ ∀ w, (Instr.makeSlice 22 (.int .i64 (n : Int)) (.int .i64 (n : Int))).run Try.prog w = .ok (.slice (some ⟨w.heap.size, 0, none⟩) n n) (w.alloc OA) := by
  obtain ⟨i0, hi, hz0, hz1, hz2⟩ := info_parts info_strS
  refine ⟨.cells (madeCells (Value.string ByteArray.empty).cells (n * 1)) 9 (0, 0), fun w => ?_, fun w => ?_⟩
  · have := own_madeH (w := w.alloc (.cells (madeCells (Value.string ByteArray.empty).cells (n * 1)) 9 (0, 0))) (base := w.heap.size) (g := w.heap.size) (n := n) (z := .string ByteArray.empty) (t := 9) rfl (L8.blk_new w _) (Nat.le_refl _) (by unfold maxLen; omega)
    simpa [mapS] using this
  · have hr := run_make (P := Try.prog) w 22 9 i0 (.string ByteArray.empty) Try.underlying22 hi hz0 .i64 .i64 (n : Int) (n : Int) (by omega) (Int.le_refl _) (by rw [hz2]; omega) (by omega)
    simp only [Int.toNat_natCast, hz1] at hr
    exact hr
theorem mk_counts (n : Nat) (h : n ≤ 6) : ∃ OA : Obj, (∀ w : World, (w.alloc OA).ownsRow w.heap.size 3 1 (.slice (some ⟨w.heap.size, 0, none⟩) n n) n (ints (List.replicate n 0))) ∧ ∀ w, (Instr.makeSlice 23 (.int .i64 (n : Int)) (.int .i64 (n : Int))).run Try.prog w = .ok (.slice (some ⟨w.heap.size, 0, none⟩) n n) (w.alloc OA) := by
  obtain ⟨i0, hi, hz0, hz1, hz2⟩ := info_parts info_int
  refine ⟨.cells (madeCells (Value.int .i64 0).cells (n * 1)) 3 (0, 0), fun w => ?_, fun w => ?_⟩
  · have := own_madeH (w := w.alloc (.cells (madeCells (Value.int .i64 0).cells (n * 1)) 3 (0, 0))) (base := w.heap.size) (g := w.heap.size) (n := n) (z := .int .i64 0) (t := 3) rfl (L8.blk_new w _) (Nat.le_refl _) (by unfold maxLen; omega)
    simpa [ints] using this
  · have hr := run_make (P := Try.prog) w 23 3 i0 (.int .i64 0) Try.underlying23 hi hz0 .i64 .i64 (n : Int) (n : Int) (by omega) (Int.le_refl _) (by rw [hz2]; omega) (by omega)
    simp only [Int.toNat_natCast, hz1] at hr
    exact hr
set_option maxRecDepth 100000 in
set_option maxHeartbeats 400000 in
theorem isPlaceCount_any (n : Int) (w : World) (b : Bool) (hb : b = true ↔ 1 ≤ n ∧ n ≤ 6) :
    Calls Try.prog 45 #[.int .i64 n] w fun e w' => e = .returned (.bool b) ∧ w = w' := by
  by_cases h1 : n ≥ 1
  · by_cases h2 : n ≤ 6
    · obtain rfl : b = true := hb.2 ⟨h1, h2⟩
      clear hb
      go_enter Try.func45, Try.ntmps45
      go_wp2
      go_ret
      exact ⟨rfl, rfl⟩
    · obtain rfl : b = false := bool_noH hb (fun h => h2 h.2)
      clear hb
      go_enter Try.func45, Try.ntmps45
      go_wp2
      go_ret
      exact ⟨rfl, rfl⟩
  · obtain rfl : b = false := bool_noH hb (fun h => h1 h.1)
    clear hb
    go_enter Try.func45, Try.ntmps45
    go_wp2
    go_ret
    exact ⟨rfl, rfl⟩
set_option maxRecDepth 100000 in
set_option maxHeartbeats 4000000 in
theorem specNewHeavy_any (x : Int) (w : World) (ok : Bool) (hok : ok = true ↔ 1 ≤ x ∧ x ≤ 6) (h : Hv) (hh : h = newH x ok) :
    Calls Try.prog 39 #[.int .i64 x] w fun e w' => ∃ v u, e = .returned (.tuple #[hvV v u h.g h.t, .bool ok]) ∧ RH w w' v u h := by
  have C := hide (fun w => l1In_any x 1 6 w ok hok)
  cases ok with
  | false =>
    obtain rfl : h = e0H := hh
    have HB := hide (rh_nil ((Below.refl w.heap.size w).alloc (Nat.le_refl _) (hvO (.slice none 0 0) (.slice none 0 0) 0 0)))
    clear hok
    go_enter Try.func39, Try.ntmps39
    go_wp2_with fail
    refine (C.out _).mono ?_
    rintro e w1 ⟨rfl, rfl⟩
    go_wp2
    refine bodyPost_ret (v := .tuple #[hvV (.slice none 0 0) (.slice none 0 0) 0 0, .bool false]) (by simp [results, Try.f39, go_sem]) rfl ⟨_, _, rfl, HB.out⟩
  | true =>
  obtain ⟨h1, h6⟩ := hok.1 rfl
  obtain ⟨n, rfl⟩ : ∃ n : Nat, x = (n : Int) := ⟨x.toNat, by omega⟩
  obtain rfl : h = ⟨List.replicate n e0, List.replicate n 0, 0, 0⟩ := by rw [hh]; simp [newH]
  clear hok hh
  obtain ⟨OA, hOA, HMA⟩ := mk_names n (by omega)
  obtain ⟨OB, hOB, HMB⟩ := mk_counts n (by omega)
  have HOA := hide hOA
  have HOB := hide hOB
  clear hOA hOB
  have BX := (Below.refl w.heap.size w).alloc (Nat.le_refl _) (hvO (.slice none 0 0) (.slice none 0 0) 0 0)
  have g0 := L8.blk_new w (hvO (.slice none 0 0) (.slice none 0 0) 0 0)
  have ez : (w.alloc (hvO (.slice none 0 0) (.slice none 0 0) 0 0)).heap.size = w.heap.size + 1 := by simp
  obtain ⟨W0, hW0⟩ : ∃ W0, W0 = w.alloc (hvO (.slice none 0 0) (.slice none 0 0) 0 0) := ⟨_, rfl⟩
  rw [← hW0] at BX g0 ez
  have HW := hide hW0
  have BQ := hide BX
  have ZP := hide g0
  have EZ := hide ez
  clear hW0 BX g0 ez
  go_enter Try.func39, Try.ntmps39
  go_wp2_with fail
  refine (C.out _).mono ?_
  rintro e w1 ⟨rfl, rfl⟩
  go_upto_region 3 with fail
  rw [show w.alloc (.cells #[.slice none 0 0, .slice none 0 0, .int .i64 0, .int .i64 0] 27) = W0 from HW.out.symm]
  refine wp_region_held_drew (S := fun _ => True) (by kernel_rfl) trivial (fun hHeld => ?_)
  refine wpAnyH_take (i := 0) (v := ?v1) rfl (by kernel_rfl) (by kernel_rfl) (by kernel_rfl) (fun _ _ _ h => h) (Or.inl ⟨by rfl, ?y1⟩) (by assumption) ?r1
  case y1 => (intro w hSw; (try dsimp only at hSw); go_simp; try (with_reducible rfl))
  simp only [List.getElem_toArray, List.getElem_cons_zero, Act.put, List.setIfInBounds_toArray, List.set_cons_zero, List.set_cons_succ]
  refine wpAnyH_take (i := 2) (v := ?v2) rfl (by kernel_rfl) (by kernel_rfl) (by kernel_rfl) (fun _ _ _ h => h) (Or.inl ⟨by rfl, ?y2⟩) (by assumption) ?r2
  case y2 => (intro w hSw; (try dsimp only at hSw); go_simp; try (with_reducible rfl))
  simp only [List.getElem_toArray, List.getElem_cons_succ, List.getElem_cons_zero, Act.put, List.setIfInBounds_toArray, List.set_cons_zero, List.set_cons_succ]
  refine wpAnyH_ready (rs := [1, 3]) (by kernel_rfl) (by simp) ?_
  refine AllReadyH.cons rfl (fun K hK => ?_) (AllReadyH.cons rfl (fun K hK => ?_) AllReadyH.nil)
  · simp only [List.getElem_toArray, List.getElem_cons_succ, List.getElem_cons_zero]
    go_simp
    obtain ⟨wa, hwa⟩ : ∃ x, (W0.alloc OA).drew = x := ⟨_, rfl⟩
    have Ewa := hide (show Below W0.heap.size W0 wa by rw [← hwa]; exact ((Below.refl _ _).alloc (Nat.le_refl _) _).drew)
    have ON := hide (show wa.ownsRow W0.heap.size 9 1 (.slice (some ⟨W0.heap.size, 0, none⟩) n n) n (mapS (List.replicate n e0)) by rw [← hwa]; exact HOA.out W0)
    rw [hwa]
    refine hK.out _ _ ?_ (fun hHeld => ?_)
    · trivial
    clear hK K hwa
    try simp only [Act.put, List.setIfInBounds_toArray, List.set_cons_zero, List.set_cons_succ]
    refine wpAnyH_ready (rs := [3]) (by kernel_rfl) (by simp) ?_
    refine AllReadyH.cons rfl (fun K hK => ?_) AllReadyH.nil
    simp only [List.getElem_toArray, List.getElem_cons_succ, List.getElem_cons_zero]
    go_simp
    obtain ⟨wb, hwb⟩ : ∃ x, wa.alloc OB = x := ⟨_, rfl⟩
    have Ewb := hide (show Below wa.heap.size wa wb by rw [← hwb]; exact ((Below.refl _ _).alloc (Nat.le_refl _) _))
    have OC := hide (show wb.ownsRow wa.heap.size 3 1 (.slice (some ⟨wa.heap.size, 0, none⟩) n n) n (ints (List.replicate n 0)) by rw [← hwb]; exact HOB.out wa)
    rw [hwb]
    refine hK.out _ _ ?_ (fun hHeld => ?_)
    · trivial
    clear hK K hwb
    try simp only [Act.put, List.setIfInBounds_toArray, List.set_cons_zero, List.set_cons_succ]
    have EE := hide (show Below W0.heap.size W0 wb from Ewa.out.trans (Ewb.out.mono Ewa.out.size))
    have OO := hide (OwH.mk (w := wb) (base := w.heap.size + 1) (h := (⟨List.replicate n e0, List.replicate n 0, 0, 0⟩ : Hv)) (n := n) (m := n) (own_baseS (own_belO ON.out Ewb.out) (by have := EZ.out; omega)) (own_baseS OC.out (by have h1 := EZ.out; have h2 := Ewa.out.size; omega)))
    refine wpAnyH_take (i := 4) (v := ?v3) rfl (by kernel_rfl) (by kernel_rfl) (by kernel_rfl) (fun _ _ _ h => h) (Or.inl ⟨by rfl, ?y3⟩) (by assumption) ?r3
    case y3 => (intro w hSw; (try dsimp only at hSw); go_simp; try (with_reducible rfl))
    simp only [List.getElem_toArray, List.getElem_cons_succ, List.getElem_cons_zero, Act.put, List.setIfInBounds_toArray, List.set_cons_zero, List.set_cons_succ]
    refine wpAnyH_ready (rs := [5]) (by kernel_rfl) (by simp) ?_
    refine AllReadyH.cons rfl (fun K hK => ?_) AllReadyH.nil
    simp only [List.getElem_toArray, List.getElem_cons_succ, List.getElem_cons_zero]
    have R2 := blk_kept ZP.out (show Below W0.heap.size W0 wb from EE.out)
    obtain ⟨y0, y1, y2, y3⟩ := blk4 R2
    obtain ⟨f0, f1, f2, f3⟩ := frz4 R2
    have R3 := hide (set4 (a' := (.slice (some ⟨W0.heap.size, 0, none⟩) n n)) (b' := (.slice (some ⟨wa.heap.size, 0, none⟩) n n)) (c' := .int .i64 0) (d' := .int .i64 0) R2)
    have O9 := hide (OO.out.setC4 w.heap.size (by have := EZ.out; omega) (.slice (some ⟨W0.heap.size, 0, none⟩) n n) (.slice (some ⟨wa.heap.size, 0, none⟩) n n) (.int .i64 0) (.int .i64 0))
    have B9 := hide (below4 (BQ.out.trans (EE.out.mono BQ.out.size)) w.heap.size (Nat.le_refl _) (.slice (some ⟨W0.heap.size, 0, none⟩) n n) (.slice (some ⟨wa.heap.size, 0, none⟩) n n) (.int .i64 0) (.int .i64 0))
    clear R2
    go_simp
    refine hK.out _ _ ?_ (fun hHeld => ?_)
    · trivial
    clear hK K y0 y1 y2 y3 f0 f1 f2 f3
    try simp only [Act.put, List.setIfInBounds_toArray, List.set_cons_zero, List.set_cons_succ]
    refine wpAnyH_take (i := 6) (v := ?v4) rfl (by kernel_rfl) (by kernel_rfl) (by kernel_rfl) (fun _ _ _ h => h) (Or.inl ⟨by rfl, ?y4⟩) (by assumption) ?r4
    case y4 => (intro w hSw; (try dsimp only at hSw); go_simp; try (with_reducible rfl))
    simp only [List.getElem_toArray, List.getElem_cons_succ, List.getElem_cons_zero, Act.put, List.setIfInBounds_toArray, List.set_cons_zero, List.set_cons_succ]
    refine wpAnyH_done (by kernel_rfl) ?_ _
    clear hHeld
    obtain ⟨d0, d1, d2, d3⟩ := blk4 R3.out
    go_wp2
    refine bodyPost_ret (v := .tuple #[hvV (.slice (some ⟨W0.heap.size, 0, none⟩) n n) (.slice (some ⟨wa.heap.size, 0, none⟩) n n) 0 0, .bool true]) (by simp [results, Try.f39, go_sem, d0, d1, d2, d3]) rfl ⟨_, _, rfl, ⟨?_, B9.out⟩⟩
    rw [show (⟨List.replicate n e0, List.replicate n 0, 0, 0⟩ : Hv).nm.length = n by simp, show (⟨List.replicate n e0, List.replicate n 0, 0, 0⟩ : Hv).ct.length = n by simp]
    exact O9.out.toBase (by omega)
  · simp only [List.getElem_toArray, List.getElem_cons_succ, List.getElem_cons_zero]
    go_simp
    obtain ⟨wa, hwa⟩ : ∃ x, (W0.alloc OB).drew = x := ⟨_, rfl⟩
    have Ewa := hide (show Below W0.heap.size W0 wa by rw [← hwa]; exact ((Below.refl _ _).alloc (Nat.le_refl _) _).drew)
    have OC := hide (show wa.ownsRow W0.heap.size 3 1 (.slice (some ⟨W0.heap.size, 0, none⟩) n n) n (ints (List.replicate n 0)) by rw [← hwa]; exact HOB.out W0)
    rw [hwa]
    refine hK.out _ _ ?_ (fun hHeld => ?_)
    · trivial
    clear hK K hwa
    try simp only [Act.put, List.setIfInBounds_toArray, List.set_cons_zero, List.set_cons_succ]
    refine wpAnyH_ready (rs := [1]) (by kernel_rfl) (by simp) ?_
    refine AllReadyH.cons rfl (fun K hK => ?_) AllReadyH.nil
    simp only [List.getElem_toArray, List.getElem_cons_succ, List.getElem_cons_zero]
    go_simp
    obtain ⟨wb, hwb⟩ : ∃ x, wa.alloc OA = x := ⟨_, rfl⟩
    have Ewb := hide (show Below wa.heap.size wa wb by rw [← hwb]; exact ((Below.refl _ _).alloc (Nat.le_refl _) _))
    have ON := hide (show wb.ownsRow wa.heap.size 9 1 (.slice (some ⟨wa.heap.size, 0, none⟩) n n) n (mapS (List.replicate n e0)) by rw [← hwb]; exact HOA.out wa)
    rw [hwb]
    refine hK.out _ _ ?_ (fun hHeld => ?_)
    · trivial
    clear hK K hwb
    try simp only [Act.put, List.setIfInBounds_toArray, List.set_cons_zero, List.set_cons_succ]
    have EE := hide (show Below W0.heap.size W0 wb from Ewa.out.trans (Ewb.out.mono Ewa.out.size))
    have OO := hide (OwH.mk (w := wb) (base := w.heap.size + 1) (h := (⟨List.replicate n e0, List.replicate n 0, 0, 0⟩ : Hv)) (n := n) (m := n) (own_baseS ON.out (by have h1 := EZ.out; have h2 := Ewa.out.size; omega)) (own_baseS (own_belO OC.out Ewb.out) (by have := EZ.out; omega)))
    refine wpAnyH_take (i := 4) (v := ?v5) rfl (by kernel_rfl) (by kernel_rfl) (by kernel_rfl) (fun _ _ _ h => h) (Or.inl ⟨by rfl, ?y5⟩) (by assumption) ?r5
    case y5 => (intro w hSw; (try dsimp only at hSw); go_simp; try (with_reducible rfl))
    simp only [List.getElem_toArray, List.getElem_cons_succ, List.getElem_cons_zero, Act.put, List.setIfInBounds_toArray, List.set_cons_zero, List.set_cons_succ]
    refine wpAnyH_ready (rs := [5]) (by kernel_rfl) (by simp) ?_
    refine AllReadyH.cons rfl (fun K hK => ?_) AllReadyH.nil
    simp only [List.getElem_toArray, List.getElem_cons_succ, List.getElem_cons_zero]
    have R2 := blk_kept ZP.out (show Below W0.heap.size W0 wb from EE.out)
    obtain ⟨y0, y1, y2, y3⟩ := blk4 R2
    obtain ⟨f0, f1, f2, f3⟩ := frz4 R2
    have R3 := hide (set4 (a' := (.slice (some ⟨wa.heap.size, 0, none⟩) n n)) (b' := (.slice (some ⟨W0.heap.size, 0, none⟩) n n)) (c' := .int .i64 0) (d' := .int .i64 0) R2)
    have O9 := hide (OO.out.setC4 w.heap.size (by have := EZ.out; omega) (.slice (some ⟨wa.heap.size, 0, none⟩) n n) (.slice (some ⟨W0.heap.size, 0, none⟩) n n) (.int .i64 0) (.int .i64 0))
    have B9 := hide (below4 (BQ.out.trans (EE.out.mono BQ.out.size)) w.heap.size (Nat.le_refl _) (.slice (some ⟨wa.heap.size, 0, none⟩) n n) (.slice (some ⟨W0.heap.size, 0, none⟩) n n) (.int .i64 0) (.int .i64 0))
    clear R2
    go_simp
    refine hK.out _ _ ?_ (fun hHeld => ?_)
    · trivial
    clear hK K y0 y1 y2 y3 f0 f1 f2 f3
    try simp only [Act.put, List.setIfInBounds_toArray, List.set_cons_zero, List.set_cons_succ]
    refine wpAnyH_take (i := 6) (v := ?v6) rfl (by kernel_rfl) (by kernel_rfl) (by kernel_rfl) (fun _ _ _ h => h) (Or.inl ⟨by rfl, ?y6⟩) (by assumption) ?r6
    case y6 => (intro w hSw; (try dsimp only at hSw); go_simp; try (with_reducible rfl))
    simp only [List.getElem_toArray, List.getElem_cons_succ, List.getElem_cons_zero, Act.put, List.setIfInBounds_toArray, List.set_cons_zero, List.set_cons_succ]
    refine wpAnyH_done (by kernel_rfl) ?_ _
    clear hHeld
    obtain ⟨d0, d1, d2, d3⟩ := blk4 R3.out
    go_wp2
    refine bodyPost_ret (v := .tuple #[hvV (.slice (some ⟨wa.heap.size, 0, none⟩) n n) (.slice (some ⟨W0.heap.size, 0, none⟩) n n) 0 0, .bool true]) (by simp [results, Try.f39, go_sem, d0, d1, d2, d3]) rfl ⟨_, _, rfl, ⟨?_, B9.out⟩⟩
    rw [show (⟨List.replicate n e0, List.replicate n 0, 0, 0⟩ : Hv).nm.length = n by simp, show (⟨List.replicate n e0, List.replicate n 0, 0, 0⟩ : Hv).ct.length = n by simp]
    exact O9.out.toBase (by omega)
set_option maxRecDepth 100000 in
set_option maxHeartbeats 4000000 in
theorem implNewHeavy_any (x : Int) (w : World) (ok : Bool) (hok : ok = true ↔ 1 ≤ x ∧ x ≤ 6) (h : Hv) (hh : h = newH x ok) :
    Calls Try.prog 40 #[.int .i64 x] w fun e w' => ∃ v u, e = .returned (.tuple #[hvV v u h.g h.t, .bool ok]) ∧ RH w w' v u h := by
  have C := hide (fun w => isPlaceCount_any x w ok hok)
  cases ok with
  | false =>
    obtain rfl : h = e0H := hh
    have HB := hide (rh_nil ((Below.refl w.heap.size w).alloc (Nat.le_refl _) (hvO (.slice none 0 0) (.slice none 0 0) 0 0)))
    clear hok
    go_enter Try.func40, Try.ntmps40
    go_wp2_with fail
    refine (C.out _).mono ?_
    rintro e w1 ⟨rfl, rfl⟩
    go_wp2
    refine bodyPost_ret (v := .tuple #[hvV (.slice none 0 0) (.slice none 0 0) 0 0, .bool false]) (by simp [results, Try.f40, go_sem]) rfl ⟨_, _, rfl, HB.out⟩
  | true =>
  obtain ⟨h1, h6⟩ := hok.1 rfl
  obtain ⟨n, rfl⟩ : ∃ n : Nat, x = (n : Int) := ⟨x.toNat, by omega⟩
  obtain rfl : h = ⟨List.replicate n e0, List.replicate n 0, 0, 0⟩ := by rw [hh]; simp [newH]
  clear hok hh
  obtain ⟨OA, hOA, HMA⟩ := mk_names n (by omega)
  obtain ⟨OB, hOB, HMB⟩ := mk_counts n (by omega)
  have HOA := hide hOA
  have HOB := hide hOB
  clear hOA hOB
  have BX := (Below.refl w.heap.size w).alloc (Nat.le_refl _) (hvO (.slice none 0 0) (.slice none 0 0) 0 0)
  have g0 := L8.blk_new w (hvO (.slice none 0 0) (.slice none 0 0) 0 0)
  have ez : (w.alloc (hvO (.slice none 0 0) (.slice none 0 0) 0 0)).heap.size = w.heap.size + 1 := by simp
  obtain ⟨W0, hW0⟩ : ∃ W0, W0 = w.alloc (hvO (.slice none 0 0) (.slice none 0 0) 0 0) := ⟨_, rfl⟩
  rw [← hW0] at BX g0 ez
  have HW := hide hW0
  have BQ := hide BX
  have ZP := hide g0
  have EZ := hide ez
  clear hW0 BX g0 ez
  go_enter Try.func40, Try.ntmps40
  go_wp2_with fail
  refine (C.out _).mono ?_
  rintro e w1 ⟨rfl, rfl⟩
  go_upto_region 3 with fail
  rw [show w.alloc (.cells #[.slice none 0 0, .slice none 0 0, .int .i64 0, .int .i64 0] 27) = W0 from HW.out.symm]
  refine wp_region_held_drew (S := fun _ => True) (by kernel_rfl) trivial (fun hHeld => ?_)
  refine wpAnyH_take (i := 0) (v := ?v7) rfl (by kernel_rfl) (by kernel_rfl) (by kernel_rfl) (fun _ _ _ h => h) (Or.inl ⟨by rfl, ?y7⟩) (by assumption) ?r7
  case y7 => (intro w hSw; (try dsimp only at hSw); go_simp; try (with_reducible rfl))
  simp only [List.getElem_toArray, List.getElem_cons_zero, Act.put, List.setIfInBounds_toArray, List.set_cons_zero, List.set_cons_succ]
  refine wpAnyH_take (i := 2) (v := ?v8) rfl (by kernel_rfl) (by kernel_rfl) (by kernel_rfl) (fun _ _ _ h => h) (Or.inl ⟨by rfl, ?y8⟩) (by assumption) ?r8
  case y8 => (intro w hSw; (try dsimp only at hSw); go_simp; try (with_reducible rfl))
  simp only [List.getElem_toArray, List.getElem_cons_succ, List.getElem_cons_zero, Act.put, List.setIfInBounds_toArray, List.set_cons_zero, List.set_cons_succ]
  refine wpAnyH_ready (rs := [1, 3]) (by kernel_rfl) (by simp) ?_
  refine AllReadyH.cons rfl (fun K hK => ?_) (AllReadyH.cons rfl (fun K hK => ?_) AllReadyH.nil)
  · simp only [List.getElem_toArray, List.getElem_cons_succ, List.getElem_cons_zero]
    go_simp
    obtain ⟨wa, hwa⟩ : ∃ x, (W0.alloc OA).drew = x := ⟨_, rfl⟩
    have Ewa := hide (show Below W0.heap.size W0 wa by rw [← hwa]; exact ((Below.refl _ _).alloc (Nat.le_refl _) _).drew)
    have ON := hide (show wa.ownsRow W0.heap.size 9 1 (.slice (some ⟨W0.heap.size, 0, none⟩) n n) n (mapS (List.replicate n e0)) by rw [← hwa]; exact HOA.out W0)
    rw [hwa]
    refine hK.out _ _ ?_ (fun hHeld => ?_)
    · trivial
    clear hK K hwa
    try simp only [Act.put, List.setIfInBounds_toArray, List.set_cons_zero, List.set_cons_succ]
    refine wpAnyH_ready (rs := [3]) (by kernel_rfl) (by simp) ?_
    refine AllReadyH.cons rfl (fun K hK => ?_) AllReadyH.nil
    simp only [List.getElem_toArray, List.getElem_cons_succ, List.getElem_cons_zero]
    go_simp
    obtain ⟨wb, hwb⟩ : ∃ x, wa.alloc OB = x := ⟨_, rfl⟩
    have Ewb := hide (show Below wa.heap.size wa wb by rw [← hwb]; exact ((Below.refl _ _).alloc (Nat.le_refl _) _))
    have OC := hide (show wb.ownsRow wa.heap.size 3 1 (.slice (some ⟨wa.heap.size, 0, none⟩) n n) n (ints (List.replicate n 0)) by rw [← hwb]; exact HOB.out wa)
    rw [hwb]
    refine hK.out _ _ ?_ (fun hHeld => ?_)
    · trivial
    clear hK K hwb
    try simp only [Act.put, List.setIfInBounds_toArray, List.set_cons_zero, List.set_cons_succ]
    have EE := hide (show Below W0.heap.size W0 wb from Ewa.out.trans (Ewb.out.mono Ewa.out.size))
    have OO := hide (OwH.mk (w := wb) (base := w.heap.size + 1) (h := (⟨List.replicate n e0, List.replicate n 0, 0, 0⟩ : Hv)) (n := n) (m := n) (own_baseS (own_belO ON.out Ewb.out) (by have := EZ.out; omega)) (own_baseS OC.out (by have h1 := EZ.out; have h2 := Ewa.out.size; omega)))
    refine wpAnyH_take (i := 4) (v := ?v9) rfl (by kernel_rfl) (by kernel_rfl) (by kernel_rfl) (fun _ _ _ h => h) (Or.inl ⟨by rfl, ?y9⟩) (by assumption) ?r9
    case y9 => (intro w hSw; (try dsimp only at hSw); go_simp; try (with_reducible rfl))
    simp only [List.getElem_toArray, List.getElem_cons_succ, List.getElem_cons_zero, Act.put, List.setIfInBounds_toArray, List.set_cons_zero, List.set_cons_succ]
    refine wpAnyH_ready (rs := [5]) (by kernel_rfl) (by simp) ?_
    refine AllReadyH.cons rfl (fun K hK => ?_) AllReadyH.nil
    simp only [List.getElem_toArray, List.getElem_cons_succ, List.getElem_cons_zero]
    have R2 := blk_kept ZP.out (show Below W0.heap.size W0 wb from EE.out)
    obtain ⟨y0, y1, y2, y3⟩ := blk4 R2
    obtain ⟨f0, f1, f2, f3⟩ := frz4 R2
    have R3 := hide (set4 (a' := (.slice (some ⟨W0.heap.size, 0, none⟩) n n)) (b' := (.slice (some ⟨wa.heap.size, 0, none⟩) n n)) (c' := .int .i64 0) (d' := .int .i64 0) R2)
    have O9 := hide (OO.out.setC4 w.heap.size (by have := EZ.out; omega) (.slice (some ⟨W0.heap.size, 0, none⟩) n n) (.slice (some ⟨wa.heap.size, 0, none⟩) n n) (.int .i64 0) (.int .i64 0))
    have B9 := hide (below4 (BQ.out.trans (EE.out.mono BQ.out.size)) w.heap.size (Nat.le_refl _) (.slice (some ⟨W0.heap.size, 0, none⟩) n n) (.slice (some ⟨wa.heap.size, 0, none⟩) n n) (.int .i64 0) (.int .i64 0))
    clear R2
    go_simp
    refine hK.out _ _ ?_ (fun hHeld => ?_)
    · trivial
    clear hK K y0 y1 y2 y3 f0 f1 f2 f3
    try simp only [Act.put, List.setIfInBounds_toArray, List.set_cons_zero, List.set_cons_succ]
    refine wpAnyH_take (i := 6) (v := ?v10) rfl (by kernel_rfl) (by kernel_rfl) (by kernel_rfl) (fun _ _ _ h => h) (Or.inl ⟨by rfl, ?y10⟩) (by assumption) ?r10
    case y10 => (intro w hSw; (try dsimp only at hSw); go_simp; try (with_reducible rfl))
    simp only [List.getElem_toArray, List.getElem_cons_succ, List.getElem_cons_zero, Act.put, List.setIfInBounds_toArray, List.set_cons_zero, List.set_cons_succ]
    refine wpAnyH_done (by kernel_rfl) ?_ _
    clear hHeld
    obtain ⟨d0, d1, d2, d3⟩ := blk4 R3.out
    go_wp2
    refine bodyPost_ret (v := .tuple #[hvV (.slice (some ⟨W0.heap.size, 0, none⟩) n n) (.slice (some ⟨wa.heap.size, 0, none⟩) n n) 0 0, .bool true]) (by simp [results, Try.f40, go_sem, d0, d1, d2, d3]) rfl ⟨_, _, rfl, ⟨?_, B9.out⟩⟩
    rw [show (⟨List.replicate n e0, List.replicate n 0, 0, 0⟩ : Hv).nm.length = n by simp, show (⟨List.replicate n e0, List.replicate n 0, 0, 0⟩ : Hv).ct.length = n by simp]
    exact O9.out.toBase (by omega)
  · simp only [List.getElem_toArray, List.getElem_cons_succ, List.getElem_cons_zero]
    go_simp
    obtain ⟨wa, hwa⟩ : ∃ x, (W0.alloc OB).drew = x := ⟨_, rfl⟩
    have Ewa := hide (show Below W0.heap.size W0 wa by rw [← hwa]; exact ((Below.refl _ _).alloc (Nat.le_refl _) _).drew)
    have OC := hide (show wa.ownsRow W0.heap.size 3 1 (.slice (some ⟨W0.heap.size, 0, none⟩) n n) n (ints (List.replicate n 0)) by rw [← hwa]; exact HOB.out W0)
    rw [hwa]
    refine hK.out _ _ ?_ (fun hHeld => ?_)
    · trivial
    clear hK K hwa
    try simp only [Act.put, List.setIfInBounds_toArray, List.set_cons_zero, List.set_cons_succ]
    refine wpAnyH_ready (rs := [1]) (by kernel_rfl) (by simp) ?_
    refine AllReadyH.cons rfl (fun K hK => ?_) AllReadyH.nil
    simp only [List.getElem_toArray, List.getElem_cons_succ, List.getElem_cons_zero]
    go_simp
    obtain ⟨wb, hwb⟩ : ∃ x, wa.alloc OA = x := ⟨_, rfl⟩
    have Ewb := hide (show Below wa.heap.size wa wb by rw [← hwb]; exact ((Below.refl _ _).alloc (Nat.le_refl _) _))
    have ON := hide (show wb.ownsRow wa.heap.size 9 1 (.slice (some ⟨wa.heap.size, 0, none⟩) n n) n (mapS (List.replicate n e0)) by rw [← hwb]; exact HOA.out wa)
    rw [hwb]
    refine hK.out _ _ ?_ (fun hHeld => ?_)
    · trivial
    clear hK K hwb
    try simp only [Act.put, List.setIfInBounds_toArray, List.set_cons_zero, List.set_cons_succ]
    have EE := hide (show Below W0.heap.size W0 wb from Ewa.out.trans (Ewb.out.mono Ewa.out.size))
    have OO := hide (OwH.mk (w := wb) (base := w.heap.size + 1) (h := (⟨List.replicate n e0, List.replicate n 0, 0, 0⟩ : Hv)) (n := n) (m := n) (own_baseS ON.out (by have h1 := EZ.out; have h2 := Ewa.out.size; omega)) (own_baseS (own_belO OC.out Ewb.out) (by have := EZ.out; omega)))
    refine wpAnyH_take (i := 4) (v := ?v11) rfl (by kernel_rfl) (by kernel_rfl) (by kernel_rfl) (fun _ _ _ h => h) (Or.inl ⟨by rfl, ?y11⟩) (by assumption) ?r11
    case y11 => (intro w hSw; (try dsimp only at hSw); go_simp; try (with_reducible rfl))
    simp only [List.getElem_toArray, List.getElem_cons_succ, List.getElem_cons_zero, Act.put, List.setIfInBounds_toArray, List.set_cons_zero, List.set_cons_succ]
    refine wpAnyH_ready (rs := [5]) (by kernel_rfl) (by simp) ?_
    refine AllReadyH.cons rfl (fun K hK => ?_) AllReadyH.nil
    simp only [List.getElem_toArray, List.getElem_cons_succ, List.getElem_cons_zero]
    have R2 := blk_kept ZP.out (show Below W0.heap.size W0 wb from EE.out)
    obtain ⟨y0, y1, y2, y3⟩ := blk4 R2
    obtain ⟨f0, f1, f2, f3⟩ := frz4 R2
    have R3 := hide (set4 (a' := (.slice (some ⟨wa.heap.size, 0, none⟩) n n)) (b' := (.slice (some ⟨W0.heap.size, 0, none⟩) n n)) (c' := .int .i64 0) (d' := .int .i64 0) R2)
    have O9 := hide (OO.out.setC4 w.heap.size (by have := EZ.out; omega) (.slice (some ⟨wa.heap.size, 0, none⟩) n n) (.slice (some ⟨W0.heap.size, 0, none⟩) n n) (.int .i64 0) (.int .i64 0))
    have B9 := hide (below4 (BQ.out.trans (EE.out.mono BQ.out.size)) w.heap.size (Nat.le_refl _) (.slice (some ⟨wa.heap.size, 0, none⟩) n n) (.slice (some ⟨W0.heap.size, 0, none⟩) n n) (.int .i64 0) (.int .i64 0))
    clear R2
    go_simp
    refine hK.out _ _ ?_ (fun hHeld => ?_)
    · trivial
    clear hK K y0 y1 y2 y3 f0 f1 f2 f3
    try simp only [Act.put, List.setIfInBounds_toArray, List.set_cons_zero, List.set_cons_succ]
    refine wpAnyH_take (i := 6) (v := ?v12) rfl (by kernel_rfl) (by kernel_rfl) (by kernel_rfl) (fun _ _ _ h => h) (Or.inl ⟨by rfl, ?y12⟩) (by assumption) ?r12
    case y12 => (intro w hSw; (try dsimp only at hSw); go_simp; try (with_reducible rfl))
    simp only [List.getElem_toArray, List.getElem_cons_succ, List.getElem_cons_zero, Act.put, List.setIfInBounds_toArray, List.set_cons_zero, List.set_cons_succ]
    refine wpAnyH_done (by kernel_rfl) ?_ _
    clear hHeld
    obtain ⟨d0, d1, d2, d3⟩ := blk4 R3.out
    go_wp2
    refine bodyPost_ret (v := .tuple #[hvV (.slice (some ⟨wa.heap.size, 0, none⟩) n n) (.slice (some ⟨W0.heap.size, 0, none⟩) n n) 0 0, .bool true]) (by simp [results, Try.f40, go_sem, d0, d1, d2, d3]) rfl ⟨_, _, rfl, ⟨?_, B9.out⟩⟩
    rw [show (⟨List.replicate n e0, List.replicate n 0, 0, 0⟩ : Hv).nm.length = n by simp, show (⟨List.replicate n e0, List.replicate n 0, 0, 0⟩ : Hv).ct.length = n by simp]
    exact O9.out.toBase (by omega)
end Go.Proofs.Ytfmfnlpajoikmao.L15H
