/-
  Contracts: impl.NewSketch, spec.NewSketch.
-/
import Derived.Test.YtfmfnlpajoikmamL15App
import Derived.Test.YtfmfnlpajoikmamL15Help
import Derived.Test.YtfmfnlpajoikmamL15Good
import Derived.Test.YtfmfnlpajoikmamSITo
import Derived.Test.YtfmfnlpajoikmamL1Lists
import Derived.Deep.DeepCutAuto
namespace Go.Proofs.Ytfmfnlpajoikmam.L15
open Go.RowKit L1 Own Sli
set_option linter.unusedVariables false

/-- A new row. -/
def zr : List Int := List.replicate 11 0
theorem zr_len : zr.length = 11 := by simp [zr]
/-- A new sketch's rows. -/
def newS (x : Int) (ok : Bool) : List (List Int) := if ok then List.replicate x.toNat zr else []
theorem newS_sms (x : Int) (ok : Bool) (hok : ok = true ↔ 1 ≤ x ∧ x ≤ 3) : SmS (newS x ok) := by
  cases ok with
  | false => exact ⟨by simp [newS], by simp [newS, pre], fun i hi => absurd hi (by simp [newS])⟩
  | true =>
    obtain ⟨h1, h3⟩ := hok.1 rfl
    have hg : ∀ i, ((newS x true).getD i []).length ≤ 11 := fun i => by
      simp only [newS, if_true, List.getD, List.getElem?_replicate]
      split <;> simp [zr]
    have hp : ∀ j, pre (newS x true) j ≤ 11 * j := fun j => by
      induction j with
      | zero => simp [pre]
      | succ j ih => have := hg j; simp only [pre]; omega
    have hl : (newS x true).length ≤ 3 := by simp [newS]; omega
    exact ⟨by omega, by have := hp (newS x true).length; omega, fun i _ => by have := hg i; omega⟩
theorem mk_row15 : ∃ OB : Obj, (∀ (W V : World), (W.alloc OB).drew = V → V.ownsRow W.heap.size 3 1 (.slice (some ⟨W.heap.size, 0, none⟩) 11 11) 11 (ints zr)) ∧ ∀ w, (Instr.makeSlice 37 (.int .i64 11) (.int .i64 11)).run Try.prog w = .ok (.slice (some ⟨w.heap.size, 0, none⟩) 11 11) (w.alloc OB) := by
  obtain ⟨i0, hi, hz0, hz1, hz2⟩ := info_parts info_int
  refine ⟨.cells (madeCells (Value.int .i64 0).cells (11 * 1)) 3 (0, 0), fun W V hV => ?_, fun w => ?_⟩
  · have := own_made15 (w := V) (base := W.heap.size) (g := W.heap.size) (n := 11) (z := .int .i64 0) (t := 3) rfl (by rw [← hV]; exact L8.blk_new W _) (Nat.le_refl _) (by unfold maxLen; omega)
    simpa [zr, ints] using this
  · have hr := run_make (P := Try.prog) w 37 3 i0 (.int .i64 0) Try.underlying37 hi hz0 .i64 .i64 (11 : Int) (11 : Int) (by omega) (Int.le_refl _) (by rw [hz2]; omega) (by omega)
    simp only [hz1] at hr
    exact hr
theorem mk_rows15 (n : Nat) (h : n ≤ 3) : ∃ OA : Obj, (∀ (w : World), (w.alloc OA).ownsRow w.heap.size 37 1 (.slice (some ⟨w.heap.size, 0, none⟩) n n) n (List.replicate n (.slice none 0 0))) ∧ ∀ w, (Instr.makeSlice 45 (.int .i64 (n : Int)) (.int .i64 (n : Int))).run Try.prog w = .ok (.slice (some ⟨w.heap.size, 0, none⟩) n n) (w.alloc OA) := by
  obtain ⟨i0, hi, hz0, hz1, hz2⟩ := info_parts info_ints
  refine ⟨.cells (madeCells (Value.slice none 0 0).cells (n * 1)) 37 (0, 0), fun w => own_made15 rfl (L8.blk_new w _) (Nat.le_refl _) (by unfold maxLen; omega), fun w => ?_⟩
  have hr := run_make (P := Try.prog) w 45 37 i0 (.slice none 0 0) Try.underlying45 hi hz0 .i64 .i64 (n : Int) (n : Int) (by omega) (Int.le_refl _) (by rw [hz2]; omega) (by omega)
  simp only [Int.toNat_natCast, hz1] at hr
  exact hr
theorem own_empty15 {w : World} {base n : Nat} {v : Value} (h : w.ownsRow base 37 1 v n (List.replicate n (.slice none 0 0))) : OwR w base v n (List.replicate n eV) := by
  have hg : ∀ i, (List.replicate n eV).getD i eV = eV := fun i => by
    simp [List.getD, List.getElem?_replicate]; split <;> rfl
  refine ⟨by simp, by simpa [flatR, eV] using h, fun i hi => by rw [hg i]; exact World.ownsRow_nil _ _ _ _, fun i j _ _ g e => ?_⟩
  rw [hg i] at e
  simp [eV, Value.ownBlock] at e
set_option maxRecDepth 100000 in
set_option maxHeartbeats 8000000 in
theorem specNewSketch_any (x : Int) (w : World) (ok : Bool) (hok : ok = true ↔ 1 ≤ x ∧ x ≤ 3) (L : List (List Int)) (hL : L = newS x ok) :
    Calls Try.prog 29 #[.int .i64 x] w fun e w' => ∃ v, e = .returned (.tuple #[.agg #[v, .int .i64 0], .bool ok]) ∧ RH w w' v L := by
  have C := hide (fun w => Own.l1In_any x 1 3 w ok hok)
  cases ok with
  | false =>
    obtain rfl : L = [] := hL
    have HB := hide (rh_nil ((Below.refl w.heap.size w).alloc (Nat.le_refl _) (skO (.slice none 0 0) 0)))
    clear hok
    go_enter Try.func29, Try.ntmps29
    go_wp2_with fail
    refine (C.out _).mono ?_
    rintro e w1 ⟨rfl, rfl⟩
    go_wp2
    refine bodyPost_ret (v := .tuple #[.agg #[.slice none 0 0, .int .i64 0], .bool false]) (by simp [results, Try.f29, go_sem]) rfl ⟨_, rfl, HB.out⟩
  | true =>
  obtain ⟨h1, h3⟩ := hok.1 rfl
  obtain ⟨n, rfl⟩ : ∃ n : Nat, x = (n : Int) := ⟨x.toNat, by omega⟩
  obtain rfl : L = List.replicate n zr := by rw [hL]; simp [newS]
  clear hok hL
  obtain ⟨i1, hi1, hy0, hy1, hy2⟩ := info_parts info_ints
  obtain ⟨OB, hOB, HMK⟩ := mk_row15
  have HOB := hide hOB
  clear hOB
  have G2 := blk_two w (skO (.slice none 0 0) 0) (skO (.slice none 0 0) 0)
  have BB := (((Below.refl w.heap.size w).alloc (Nat.le_refl _) (skO (.slice none 0 0) 0)).alloc (by simp) (skO (.slice none 0 0) 0))
  obtain ⟨W0, hW0⟩ : ∃ W0, (w.alloc (skO (.slice none 0 0) 0)).alloc (skO (.slice none 0 0) 0) = W0 := ⟨_, rfl⟩
  rw [hW0] at G2 BB
  have HW0 := hide hW0
  obtain ⟨b2, b1, bz⟩ := G2
  have H3 := hide b2
  have H2 := hide b1
  have HBB := hide BB
  clear hW0 b2 b1 BB
  go_enter Try.func29, Try.ntmps29
  go_wp2_with fail
  refine (C.out _).mono ?_
  rintro e w1 ⟨rfl, rfl⟩
  go_upto_region 3 with fail
  go_wp2
  rw [show (w.alloc (.cells #[.slice none 0 0, .int .i64 0] 47)).alloc (.cells #[.slice none 0 0, .int .i64 0] 47) = W0 from HW0.out]
  clear HW0
  go_loopw [0] (fun i wr => ∃ (k : Nat) (v : Value) (M : List PR), k ≤ n ∧ i = .int .i64 ((n : Int) - (k : Int)) ∧ Hid (wr.heap[w.heap.size + 1]? = some (skO v 0)) ∧ Hid (wr.heap[w.heap.size]? = some (skO (.slice none 0 0) 0)) ∧ Hid (OwR wr (w.heap.size + 2) v k M) ∧ Hid (rws M = List.replicate k zr) ∧ Hid (w.heap.size + 2 ≤ wr.heap.size) ∧ Hid (Below w.heap.size w wr)) (fun i _ => (intOf i).toNat)
  case atStart => exact ⟨0, .slice none 0 0, [], Nat.zero_le _, by simp, H3.out, H2.out, ⟨rfl, World.ownsRow_nil _ _ _ _, fun i hi => absurd hi (Nat.not_lt_zero _), fun i j _ hj => absurd hj (Nat.not_lt_zero _)⟩, rfl, Nat.le_of_eq bz.symm, HBB.out⟩
  case round =>
    obtain ⟨k, v, M, hk, rfl, H3, H2, O, HM, HZ, BW⟩ := hrel
    by_cases hlt : k < n
    · have hltI : (n : Int) - (k : Int) > 0 := by omega
      go_upto_region 6 with fail
      refine wp_region_held_drew (S := (fun wx => Below w.heap.size w wx)) (by kernel_rfl) BW.out.drew (fun hHeld => ?_)
      refine wpAnyH_take (i := 0) (v := ?v12) rfl (by kernel_rfl) (by kernel_rfl) (by kernel_rfl) (fun _ _ _ h => h) (Or.inl ⟨by rfl, ?y12⟩) (by assumption) ?r12
      case y12 => (intro w hSw; (try dsimp only at hSw); go_simp; try (with_reducible rfl))
      simp only [List.getElem_toArray, List.getElem_cons_zero, Act.put, List.setIfInBounds_toArray, List.set_cons_zero, List.set_cons_succ]
      refine wpAnyH_ready (rs := [1, 2]) (by kernel_rfl) (by simp) ?_
      refine AllReadyH.cons rfl (fun K hK => ?_) (AllReadyH.cons rfl (fun K hK => ?_) AllReadyH.nil)
      · simp only [List.getElem_toArray, List.getElem_cons_succ, List.getElem_cons_zero]
        obtain ⟨r0, r1, _, _⟩ := blkp H3.out
        go_simp
        refine hK.out _ _ ?_ (fun hHeld => ?_)
        · exact hHeld
        clear hK K r0 r1
        try simp only [Act.put, List.setIfInBounds_toArray, List.set_cons_zero, List.set_cons_succ]
        refine wpAnyH_ready (rs := [2]) (by kernel_rfl) (by simp) ?_
        refine AllReadyH.cons rfl (fun K hK => ?_) AllReadyH.nil
        simp only [List.getElem_toArray, List.getElem_cons_succ, List.getElem_cons_zero]
        go_simp
        obtain ⟨w6, hw6⟩ : ∃ w6, (wr.alloc OB).drew = w6 := ⟨_, rfl⟩
        have Ew6 := hide (show Below wr.heap.size wr w6 by rw [← hw6]; exact ((Below.refl wr.heap.size wr).alloc (Nat.le_refl _) _).drew)
        have I6 := hide (show w6.ownsRow wr.heap.size 3 1 (.slice (some ⟨wr.heap.size, 0, none⟩) 11 11) 11 (ints zr) by exact HOB.out _ _ hw6)
        rw [hw6]
        refine hK.out _ _ ?_ (fun hHeld => ?_)
        · exact BW.out.trans (Ew6.out.mono BW.out.size)
        clear hK K hw6
        try simp only [Act.put, List.setIfInBounds_toArray, List.set_cons_zero, List.set_cons_succ]
        refine wpAnyH_ready (rs := [3]) (by kernel_rfl) (by simp) ?_
        refine AllReadyH.cons rfl (fun K hK => ?_) AllReadyH.nil
        simp only [List.getElem_toArray, List.getElem_cons_succ, List.getElem_cons_zero]
        obtain ⟨W6, hW6⟩ : ∃ W6, w6.alloc (.cells #[.slice (some ⟨wr.heap.size, 0, none⟩) 11 11] 37) = W6 := ⟨_, rfl⟩
        have e6 : Below w6.heap.size w6 W6 := by rw [← hW6]; exact (Below.refl _ _).alloc (Nat.le_refl _) _
        have C6 := hide (show ∀ j u, [.slice (some ⟨wr.heap.size, 0, none⟩) 11 11][j]? = some u → W6.cell? ((⟨w6.heap.size, 0, none⟩ : Addr).add j) = some u by rw [← hW6]; exact cell_one_newR _ _ _)
        have EW6 := hide (Ew6.out.trans (e6.mono Ew6.out.size))
        have J6 := hide (own_belO I6.out e6)
        clear e6
        go_simp
        refine hK.out _ _ ?_ (fun hHeld => ?_)
        · exact BW.out.trans (EW6.out.mono BW.out.size)
        clear hK K hW6
        try simp only [Act.put, List.setIfInBounds_toArray, List.set_cons_zero, List.set_cons_succ]
        refine wpAnyH_ready (rs := [4]) (by kernel_rfl) (by simp) ?_
        refine AllReadyH.cons rfl (fun K hK => ?_) AllReadyH.nil
        simp only [List.getElem_toArray, List.getElem_cons_succ, List.getElem_cons_zero]
        rw [if_pos (show Region.wanted _ _ = true from rfl)]
        have ZR := hide (show w.heap.size + 2 ≤ wr.heap.size from HZ.out)
        refine oper_append_at _ _ 45 rfl (w.heap.size + 2) 37 i1 (.slice none 0 0) 1 24 Try.underlying45 hi1 hy0 hy1 hy2 rfl (by decide) v k (flatR M) rfl (own_belO O.out.row EW6.out) ⟨w6.heap.size, 0, none⟩ 1 1 [.slice (some ⟨wr.heap.size, 0, none⟩) 11 11] rfl rfl C6.out (by intro u hu; simp at hu; rcases hu with rfl; rfl) (by unfold maxLen; omega) (by omega) (by have h1 := HZ.out; have h2 := EW6.out.size; omega) ?_
        intro v7 w7 hrow7 hg7 _
        have hlo := fun b hb => (L8.own_lt O.out.row b hb)
        have hneO : v.ownBlock ≠ some (w.heap.size + 1) := fun e => by have := (hlo _ e).1; omega
        have hneR : v.ownBlock ≠ some (w.heap.size) := fun e => by have := (hlo _ e).1; omega
        have R7 := hide (blk_grown (blk_kept H3.out EW6.out) hg7 hneO)
        have Z7 := hide (blk_grown (blk_kept H2.out EW6.out) hg7 hneR)
        have O7 := hide ((O.out.below EW6.out).more zr (.slice (some ⟨wr.heap.size, 0, none⟩) 11 11) (by show W6.ownsRow _ _ _ _ zr.length _; rw [zr_len]; exact own_baseR J6.out HZ.out) (fun i hi b h1 h2 => by have h3 := (L8.own_lt (O.out.idx i hi) b h2).2; have h4 := (L8.own_lt J6.out b h1).1; omega) hrow7 hg7)
        obtain ⟨a7, c7, rfl, _⟩ := O7.out.form
        have B7 := hide ((BW.out.trans (EW6.out.mono BW.out.size)).grown hg7 (Nat.le_trans BW.out.size EW6.out.size) (fun b hb => by have := (hlo b hb).1; omega))
        have Q7 := hide (show wr.heap.size ≤ w7.heap.size from Nat.le_trans EW6.out.size hg7.size)
        refine hK.out _ _ ?_ (fun hHeld => ?_)
        · exact B7.out
        clear hK K hrow7 hg7 hneO hneR hlo
        try simp only [Act.put, List.setIfInBounds_toArray, List.set_cons_zero, List.set_cons_succ]
        refine wpAnyH_take (i := 5) (v := ?v13) rfl (by kernel_rfl) (by kernel_rfl) (by kernel_rfl) (fun _ _ _ h => h) (Or.inl ⟨by rfl, ?y13⟩) (by assumption) ?r13
        case y13 => (intro w hSw; (try dsimp only at hSw); go_simp; try (with_reducible rfl))
        simp only [List.getElem_toArray, List.getElem_cons_succ, List.getElem_cons_zero, Act.put, List.setIfInBounds_toArray, List.set_cons_zero, List.set_cons_succ]
        refine wpAnyH_ready (rs := [6]) (by kernel_rfl) (by simp) ?_
        refine AllReadyH.cons rfl (fun K hK => ?_) AllReadyH.nil
        simp only [List.getElem_toArray, List.getElem_cons_succ, List.getElem_cons_zero]
        obtain ⟨r0, r1, q0, q1⟩ := blkp R7.out
        go_simp
        have ne32 : (⟨w.heap.size + 1, 0, none⟩ : Addr).block ≠ w.heap.size := by show w.heap.size + 1 ≠ _; omega
        have R8 := hide (set1 (a' := (.slice a7 (k + 1) c7)) R7.out)
        have Z8 := hide (set_old (p := ⟨w.heap.size + 1, 0, none⟩) (v := (.slice a7 (k + 1) c7)) Z7.out ne32)
        have O8 := hide (O7.out.setC ⟨w.heap.size + 1, 0, none⟩ (.slice a7 (k + 1) c7) (by show w.heap.size + 1 < _; omega))
        have B8 := hide (B7.out.setCell (p := ⟨w.heap.size + 1, 0, none⟩) (by show w.heap.size ≤ w.heap.size + 1; omega) (.slice a7 (k + 1) c7))
        refine hK.out _ _ ?_ (fun hHeld => ?_)
        · exact B8.out
        clear hK K ne32 r0 r1 q0 q1
        try simp only [Act.put, List.setIfInBounds_toArray, List.set_cons_zero, List.set_cons_succ]
        refine wpAnyH_done (by kernel_rfl) ?_ _
        clear hHeld
        have HR := hide (show rws (M ++ [(zr, .slice (some ⟨wr.heap.size, 0, none⟩) 11 11)]) = List.replicate (k + 1) zr by rw [rws_more, HM.out, List.replicate_succ'])
        have HZ8 := hide (show w.heap.size + 2 ≤ (w7.setCell ⟨w.heap.size + 1, 0, none⟩ (.slice a7 (k + 1) c7)).heap.size by rw [World.size_setCell]; have h1 := HZ.out; have h2 := Q7.out; omega)
        go_wp2
        go_roundw
        case rel => exact ⟨k + 1, _, _, by omega, by congr 1; omega, R8.out, Z8.out, O8.out, HR.out, HZ8.out, B8.out⟩
        case measure => simp [intOf]; omega
      · simp only [List.getElem_toArray, List.getElem_cons_succ, List.getElem_cons_zero]
        go_simp
        obtain ⟨w6, hw6⟩ : ∃ w6, (wr.alloc OB).drew = w6 := ⟨_, rfl⟩
        have Ew6 := hide (show Below wr.heap.size wr w6 by rw [← hw6]; exact ((Below.refl wr.heap.size wr).alloc (Nat.le_refl _) _).drew)
        have I6 := hide (show w6.ownsRow wr.heap.size 3 1 (.slice (some ⟨wr.heap.size, 0, none⟩) 11 11) 11 (ints zr) by exact HOB.out _ _ hw6)
        rw [hw6]
        refine hK.out _ _ ?_ (fun hHeld => ?_)
        · exact BW.out.trans (Ew6.out.mono BW.out.size)
        clear hK K hw6
        try simp only [Act.put, List.setIfInBounds_toArray, List.set_cons_zero, List.set_cons_succ]
        refine wpAnyH_ready (rs := [1, 3]) (by kernel_rfl) (by simp) ?_
        refine AllReadyH.cons rfl (fun K hK => ?_) (AllReadyH.cons rfl (fun K hK => ?_) AllReadyH.nil)
        · simp only [List.getElem_toArray, List.getElem_cons_succ, List.getElem_cons_zero]
          obtain ⟨r0, r1, _, _⟩ := blkp (blk_kept H3.out Ew6.out)
          go_simp
          refine hK.out _ _ ?_ (fun hHeld => ?_)
          · exact hHeld
          clear hK K r0 r1
          try simp only [Act.put, List.setIfInBounds_toArray, List.set_cons_zero, List.set_cons_succ]
          refine wpAnyH_ready (rs := [3]) (by kernel_rfl) (by simp) ?_
          refine AllReadyH.cons rfl (fun K hK => ?_) AllReadyH.nil
          simp only [List.getElem_toArray, List.getElem_cons_succ, List.getElem_cons_zero]
          obtain ⟨W6, hW6⟩ : ∃ W6, w6.alloc (.cells #[.slice (some ⟨wr.heap.size, 0, none⟩) 11 11] 37) = W6 := ⟨_, rfl⟩
          have e6 : Below w6.heap.size w6 W6 := by rw [← hW6]; exact (Below.refl _ _).alloc (Nat.le_refl _) _
          have C6 := hide (show ∀ j u, [.slice (some ⟨wr.heap.size, 0, none⟩) 11 11][j]? = some u → W6.cell? ((⟨w6.heap.size, 0, none⟩ : Addr).add j) = some u by rw [← hW6]; exact cell_one_newR _ _ _)
          have EW6 := hide (Ew6.out.trans (e6.mono Ew6.out.size))
          have J6 := hide (own_belO I6.out e6)
          clear e6
          go_simp
          refine hK.out _ _ ?_ (fun hHeld => ?_)
          · exact BW.out.trans (EW6.out.mono BW.out.size)
          clear hK K hW6
          try simp only [Act.put, List.setIfInBounds_toArray, List.set_cons_zero, List.set_cons_succ]
          refine wpAnyH_ready (rs := [4]) (by kernel_rfl) (by simp) ?_
          refine AllReadyH.cons rfl (fun K hK => ?_) AllReadyH.nil
          simp only [List.getElem_toArray, List.getElem_cons_succ, List.getElem_cons_zero]
          rw [if_pos (show Region.wanted _ _ = true from rfl)]
          have ZR := hide (show w.heap.size + 2 ≤ wr.heap.size from HZ.out)
          refine oper_append_at _ _ 45 rfl (w.heap.size + 2) 37 i1 (.slice none 0 0) 1 24 Try.underlying45 hi1 hy0 hy1 hy2 rfl (by decide) v k (flatR M) rfl (own_belO O.out.row EW6.out) ⟨w6.heap.size, 0, none⟩ 1 1 [.slice (some ⟨wr.heap.size, 0, none⟩) 11 11] rfl rfl C6.out (by intro u hu; simp at hu; rcases hu with rfl; rfl) (by unfold maxLen; omega) (by omega) (by have h1 := HZ.out; have h2 := EW6.out.size; omega) ?_
          intro v7 w7 hrow7 hg7 _
          have hlo := fun b hb => (L8.own_lt O.out.row b hb)
          have hneO : v.ownBlock ≠ some (w.heap.size + 1) := fun e => by have := (hlo _ e).1; omega
          have hneR : v.ownBlock ≠ some (w.heap.size) := fun e => by have := (hlo _ e).1; omega
          have R7 := hide (blk_grown (blk_kept H3.out EW6.out) hg7 hneO)
          have Z7 := hide (blk_grown (blk_kept H2.out EW6.out) hg7 hneR)
          have O7 := hide ((O.out.below EW6.out).more zr (.slice (some ⟨wr.heap.size, 0, none⟩) 11 11) (by show W6.ownsRow _ _ _ _ zr.length _; rw [zr_len]; exact own_baseR J6.out HZ.out) (fun i hi b h1 h2 => by have h3 := (L8.own_lt (O.out.idx i hi) b h2).2; have h4 := (L8.own_lt J6.out b h1).1; omega) hrow7 hg7)
          obtain ⟨a7, c7, rfl, _⟩ := O7.out.form
          have B7 := hide ((BW.out.trans (EW6.out.mono BW.out.size)).grown hg7 (Nat.le_trans BW.out.size EW6.out.size) (fun b hb => by have := (hlo b hb).1; omega))
          have Q7 := hide (show wr.heap.size ≤ w7.heap.size from Nat.le_trans EW6.out.size hg7.size)
          refine hK.out _ _ ?_ (fun hHeld => ?_)
          · exact B7.out
          clear hK K hrow7 hg7 hneO hneR hlo
          try simp only [Act.put, List.setIfInBounds_toArray, List.set_cons_zero, List.set_cons_succ]
          refine wpAnyH_take (i := 5) (v := ?v14) rfl (by kernel_rfl) (by kernel_rfl) (by kernel_rfl) (fun _ _ _ h => h) (Or.inl ⟨by rfl, ?y14⟩) (by assumption) ?r14
          case y14 => (intro w hSw; (try dsimp only at hSw); go_simp; try (with_reducible rfl))
          simp only [List.getElem_toArray, List.getElem_cons_succ, List.getElem_cons_zero, Act.put, List.setIfInBounds_toArray, List.set_cons_zero, List.set_cons_succ]
          refine wpAnyH_ready (rs := [6]) (by kernel_rfl) (by simp) ?_
          refine AllReadyH.cons rfl (fun K hK => ?_) AllReadyH.nil
          simp only [List.getElem_toArray, List.getElem_cons_succ, List.getElem_cons_zero]
          obtain ⟨r0, r1, q0, q1⟩ := blkp R7.out
          go_simp
          have ne32 : (⟨w.heap.size + 1, 0, none⟩ : Addr).block ≠ w.heap.size := by show w.heap.size + 1 ≠ _; omega
          have R8 := hide (set1 (a' := (.slice a7 (k + 1) c7)) R7.out)
          have Z8 := hide (set_old (p := ⟨w.heap.size + 1, 0, none⟩) (v := (.slice a7 (k + 1) c7)) Z7.out ne32)
          have O8 := hide (O7.out.setC ⟨w.heap.size + 1, 0, none⟩ (.slice a7 (k + 1) c7) (by show w.heap.size + 1 < _; omega))
          have B8 := hide (B7.out.setCell (p := ⟨w.heap.size + 1, 0, none⟩) (by show w.heap.size ≤ w.heap.size + 1; omega) (.slice a7 (k + 1) c7))
          refine hK.out _ _ ?_ (fun hHeld => ?_)
          · exact B8.out
          clear hK K ne32 r0 r1 q0 q1
          try simp only [Act.put, List.setIfInBounds_toArray, List.set_cons_zero, List.set_cons_succ]
          refine wpAnyH_done (by kernel_rfl) ?_ _
          clear hHeld
          have HR := hide (show rws (M ++ [(zr, .slice (some ⟨wr.heap.size, 0, none⟩) 11 11)]) = List.replicate (k + 1) zr by rw [rws_more, HM.out, List.replicate_succ'])
          have HZ8 := hide (show w.heap.size + 2 ≤ (w7.setCell ⟨w.heap.size + 1, 0, none⟩ (.slice a7 (k + 1) c7)).heap.size by rw [World.size_setCell]; have h1 := HZ.out; have h2 := Q7.out; omega)
          go_wp2
          go_roundw
          case rel => exact ⟨k + 1, _, _, by omega, by congr 1; omega, R8.out, Z8.out, O8.out, HR.out, HZ8.out, B8.out⟩
          case measure => simp [intOf]; omega
        · simp only [List.getElem_toArray, List.getElem_cons_succ, List.getElem_cons_zero]
          obtain ⟨W6, hW6⟩ : ∃ W6, w6.alloc (.cells #[.slice (some ⟨wr.heap.size, 0, none⟩) 11 11] 37) = W6 := ⟨_, rfl⟩
          have e6 : Below w6.heap.size w6 W6 := by rw [← hW6]; exact (Below.refl _ _).alloc (Nat.le_refl _) _
          have C6 := hide (show ∀ j u, [.slice (some ⟨wr.heap.size, 0, none⟩) 11 11][j]? = some u → W6.cell? ((⟨w6.heap.size, 0, none⟩ : Addr).add j) = some u by rw [← hW6]; exact cell_one_newR _ _ _)
          have EW6 := hide (Ew6.out.trans (e6.mono Ew6.out.size))
          have J6 := hide (own_belO I6.out e6)
          clear e6
          go_simp
          refine hK.out _ _ ?_ (fun hHeld => ?_)
          · exact BW.out.trans (EW6.out.mono BW.out.size)
          clear hK K hW6
          try simp only [Act.put, List.setIfInBounds_toArray, List.set_cons_zero, List.set_cons_succ]
          refine wpAnyH_ready (rs := [1]) (by kernel_rfl) (by simp) ?_
          refine AllReadyH.cons rfl (fun K hK => ?_) AllReadyH.nil
          simp only [List.getElem_toArray, List.getElem_cons_succ, List.getElem_cons_zero]
          obtain ⟨r0, r1, _, _⟩ := blkp (blk_kept H3.out EW6.out)
          go_simp
          refine hK.out _ _ ?_ (fun hHeld => ?_)
          · exact hHeld
          clear hK K r0 r1
          try simp only [Act.put, List.setIfInBounds_toArray, List.set_cons_zero, List.set_cons_succ]
          refine wpAnyH_ready (rs := [4]) (by kernel_rfl) (by simp) ?_
          refine AllReadyH.cons rfl (fun K hK => ?_) AllReadyH.nil
          simp only [List.getElem_toArray, List.getElem_cons_succ, List.getElem_cons_zero]
          rw [if_pos (show Region.wanted _ _ = true from rfl)]
          have ZR := hide (show w.heap.size + 2 ≤ wr.heap.size from HZ.out)
          refine oper_append_at _ _ 45 rfl (w.heap.size + 2) 37 i1 (.slice none 0 0) 1 24 Try.underlying45 hi1 hy0 hy1 hy2 rfl (by decide) v k (flatR M) rfl (own_belO O.out.row EW6.out) ⟨w6.heap.size, 0, none⟩ 1 1 [.slice (some ⟨wr.heap.size, 0, none⟩) 11 11] rfl rfl C6.out (by intro u hu; simp at hu; rcases hu with rfl; rfl) (by unfold maxLen; omega) (by omega) (by have h1 := HZ.out; have h2 := EW6.out.size; omega) ?_
          intro v7 w7 hrow7 hg7 _
          have hlo := fun b hb => (L8.own_lt O.out.row b hb)
          have hneO : v.ownBlock ≠ some (w.heap.size + 1) := fun e => by have := (hlo _ e).1; omega
          have hneR : v.ownBlock ≠ some (w.heap.size) := fun e => by have := (hlo _ e).1; omega
          have R7 := hide (blk_grown (blk_kept H3.out EW6.out) hg7 hneO)
          have Z7 := hide (blk_grown (blk_kept H2.out EW6.out) hg7 hneR)
          have O7 := hide ((O.out.below EW6.out).more zr (.slice (some ⟨wr.heap.size, 0, none⟩) 11 11) (by show W6.ownsRow _ _ _ _ zr.length _; rw [zr_len]; exact own_baseR J6.out HZ.out) (fun i hi b h1 h2 => by have h3 := (L8.own_lt (O.out.idx i hi) b h2).2; have h4 := (L8.own_lt J6.out b h1).1; omega) hrow7 hg7)
          obtain ⟨a7, c7, rfl, _⟩ := O7.out.form
          have B7 := hide ((BW.out.trans (EW6.out.mono BW.out.size)).grown hg7 (Nat.le_trans BW.out.size EW6.out.size) (fun b hb => by have := (hlo b hb).1; omega))
          have Q7 := hide (show wr.heap.size ≤ w7.heap.size from Nat.le_trans EW6.out.size hg7.size)
          refine hK.out _ _ ?_ (fun hHeld => ?_)
          · exact B7.out
          clear hK K hrow7 hg7 hneO hneR hlo
          try simp only [Act.put, List.setIfInBounds_toArray, List.set_cons_zero, List.set_cons_succ]
          refine wpAnyH_take (i := 5) (v := ?v15) rfl (by kernel_rfl) (by kernel_rfl) (by kernel_rfl) (fun _ _ _ h => h) (Or.inl ⟨by rfl, ?y15⟩) (by assumption) ?r15
          case y15 => (intro w hSw; (try dsimp only at hSw); go_simp; try (with_reducible rfl))
          simp only [List.getElem_toArray, List.getElem_cons_succ, List.getElem_cons_zero, Act.put, List.setIfInBounds_toArray, List.set_cons_zero, List.set_cons_succ]
          refine wpAnyH_ready (rs := [6]) (by kernel_rfl) (by simp) ?_
          refine AllReadyH.cons rfl (fun K hK => ?_) AllReadyH.nil
          simp only [List.getElem_toArray, List.getElem_cons_succ, List.getElem_cons_zero]
          obtain ⟨r0, r1, q0, q1⟩ := blkp R7.out
          go_simp
          have ne32 : (⟨w.heap.size + 1, 0, none⟩ : Addr).block ≠ w.heap.size := by show w.heap.size + 1 ≠ _; omega
          have R8 := hide (set1 (a' := (.slice a7 (k + 1) c7)) R7.out)
          have Z8 := hide (set_old (p := ⟨w.heap.size + 1, 0, none⟩) (v := (.slice a7 (k + 1) c7)) Z7.out ne32)
          have O8 := hide (O7.out.setC ⟨w.heap.size + 1, 0, none⟩ (.slice a7 (k + 1) c7) (by show w.heap.size + 1 < _; omega))
          have B8 := hide (B7.out.setCell (p := ⟨w.heap.size + 1, 0, none⟩) (by show w.heap.size ≤ w.heap.size + 1; omega) (.slice a7 (k + 1) c7))
          refine hK.out _ _ ?_ (fun hHeld => ?_)
          · exact B8.out
          clear hK K ne32 r0 r1 q0 q1
          try simp only [Act.put, List.setIfInBounds_toArray, List.set_cons_zero, List.set_cons_succ]
          refine wpAnyH_done (by kernel_rfl) ?_ _
          clear hHeld
          have HR := hide (show rws (M ++ [(zr, .slice (some ⟨wr.heap.size, 0, none⟩) 11 11)]) = List.replicate (k + 1) zr by rw [rws_more, HM.out, List.replicate_succ'])
          have HZ8 := hide (show w.heap.size + 2 ≤ (w7.setCell ⟨w.heap.size + 1, 0, none⟩ (.slice a7 (k + 1) c7)).heap.size by rw [World.size_setCell]; have h1 := HZ.out; have h2 := Q7.out; omega)
          go_wp2
          go_roundw
          case rel => exact ⟨k + 1, _, _, by omega, by congr 1; omega, R8.out, Z8.out, O8.out, HR.out, HZ8.out, B8.out⟩
          case measure => simp [intOf]; omega
    · obtain rfl : k = n := by omega
      have hltI : ¬ (k : Int) - (k : Int) > 0 := by omega
      obtain ⟨r0, r1, _, _⟩ := blkp H3.out
      obtain ⟨z0, z1, y0, y1⟩ := blkp H2.out
      have HL := hide HM.out
      obtain ⟨va, vc, rfl, _⟩ := O.out.form
      have d := blkp (set2 (a' := .slice va k vc) (b' := .int .i64 0) H2.out)
      obtain ⟨d0, d1, _, _⟩ := d
      have lt1 : (⟨w.heap.size, 0, none⟩ : Addr).block < w.heap.size + 2 := by show w.heap.size < _; omega
      have O9 := hide ((O.out.setC ⟨w.heap.size, 0, none⟩ (.slice va k vc) lt1).setC ⟨w.heap.size, 1, none⟩ (.int .i64 0) (by show w.heap.size < _; omega))
      have B9 := hide ((BW.out.setCell (p := ⟨w.heap.size, 0, none⟩) (Nat.le_refl _) (.slice va k vc)).setCell (p := ⟨w.heap.size, 1, none⟩) (Nat.le_refl _) (.int .i64 0))
      go_wp2
      refine bodyPost_ret (v := .tuple #[.agg #[.slice va k vc, .int .i64 0], .bool true]) (by simp [results, Try.f29, go_sem, d0, d1]) rfl ⟨_, rfl, ⟨M, HL.out, ?_⟩, B9.out⟩
      have := O9.out.base (b2 := w.heap.size) (by omega)
      rw [List.length_replicate]
      exact this
set_option maxRecDepth 100000 in
set_option maxHeartbeats 8000000 in
theorem implNewSketch_any (x : Int) (w : World) (ok : Bool) (hok : ok = true ↔ 1 ≤ x ∧ x ≤ 3) (L : List (List Int)) (hL : L = newS x ok) :
    Calls Try.prog 30 #[.int .i64 x] w fun e w' => ∃ v, e = .returned (.tuple #[.agg #[v, .int .i64 0], .bool ok]) ∧ RH w w' v L := by
  have C := hide (fun w => isRowCount_any x w ok hok)
  cases ok with
  | false =>
    obtain rfl : L = [] := hL
    have HB := hide (rh_nil ((Below.refl w.heap.size w).alloc (Nat.le_refl _) (skO (.slice none 0 0) 0)))
    clear hok
    go_enter Try.func30, Try.ntmps30
    go_wp2_with fail
    refine (C.out _).mono ?_
    rintro e w1 ⟨rfl, rfl⟩
    go_wp2
    refine bodyPost_ret (v := .tuple #[.agg #[.slice none 0 0, .int .i64 0], .bool false]) (by simp [results, Try.f30, go_sem]) rfl ⟨_, rfl, HB.out⟩
  | true =>
  obtain ⟨h1, h3⟩ := hok.1 rfl
  obtain ⟨n, rfl⟩ : ∃ n : Nat, x = (n : Int) := ⟨x.toNat, by omega⟩
  obtain rfl : L = List.replicate n zr := by rw [hL]; simp [newS]
  clear hok hL
  obtain ⟨OA, hOA, HMA⟩ := mk_rows15 n (by omega)
  obtain ⟨OB, hOB, HMK⟩ := mk_row15
  have HOB := hide hOB
  have G3 := blk_three w (skO (.slice none 0 0) 0) OA (skO (.slice (some ⟨w.heap.size + 1, 0, none⟩) n n) 0)
  have hO1 := hOA (w.alloc (skO (.slice none 0 0) 0))
  have eS : (w.alloc (skO (.slice none 0 0) 0)).heap.size = w.heap.size + 1 := by simp
  rw [eS] at hO1
  have B1 := (Below.refl w.heap.size w).alloc (Nat.le_refl _) (skO (.slice none 0 0) 0)
  have B2 := B1.alloc (by simp) OA
  have hO2 := own_belO hO1 ((Below.refl _ _).alloc (Nat.le_refl _) (skO (.slice (some ⟨w.heap.size + 1, 0, none⟩) n n) 0))
  have BB := B2.alloc (by simp; omega) (skO (.slice (some ⟨w.heap.size + 1, 0, none⟩) n n) 0)
  obtain ⟨W0, hW0⟩ : ∃ W0, ((w.alloc (skO (.slice none 0 0) 0)).alloc OA).alloc (skO (.slice (some ⟨w.heap.size + 1, 0, none⟩) n n) 0) = W0 := ⟨_, rfl⟩
  rw [hW0] at G3 BB hO2
  have HW0 := hide hW0
  obtain ⟨b3, _, b1, bz⟩ := G3
  have H3 := hide b3
  have H2 := hide b1
  have HBB := hide BB
  have HO := hide (own_empty15 hO2)
  clear hW0 b3 b1 BB B1 B2 hO1 hO2 eS hOA hOB
  go_enter Try.func30, Try.ntmps30
  go_wp2_with fail
  refine (C.out _).mono ?_
  rintro e w1 ⟨rfl, rfl⟩
  go_upto_region 4 with fail
  rw [show ((w.alloc (.cells #[.slice none 0 0, .int .i64 0] 47)).alloc OA).alloc (.cells #[.slice (some ⟨w.heap.size + 1, 0, none⟩) n n, .int .i64 0] 47) = W0 from HW0.out]
  clear HW0
  obtain ⟨c0, c1, _, _⟩ := blkp H3.out
  go_wp2
  clear c0 c1
  go_loopw [16] (fun i wr => ∃ (k : Nat) (M : List PR), k ≤ n ∧ i = .int .i64 (k : Int) ∧ Hid (wr.heap[w.heap.size + 2]? = some (skO (.slice (some ⟨w.heap.size + 1, 0, none⟩) n n) 0)) ∧ Hid (wr.heap[w.heap.size]? = some (skO (.slice none 0 0) 0)) ∧ Hid (OwR wr (w.heap.size + 1) (.slice (some ⟨w.heap.size + 1, 0, none⟩) n n) n M) ∧ Hid (∀ j, j < k → (M.getD j eV).1 = zr) ∧ Hid (w.heap.size + 3 ≤ wr.heap.size) ∧ Hid (Below w.heap.size w wr)) (fun i _ => n - (intOf i).toNat)
  case atStart => exact ⟨0, List.replicate n eV, Nat.zero_le _, rfl, H3.out, H2.out, HO.out, fun j hj => absurd hj (Nat.not_lt_zero _), Nat.le_of_eq bz.symm, HBB.out⟩
  case round =>
    obtain ⟨k, M, hk, rfl, H3, H2, O, HM, HZ, BW⟩ := hrel
    by_cases hlt : k < n
    · have hltI : (k : Int) < (n : Int) := by omega
      have hk0 : (0 : Int) ≤ (k : Int) := by omega
      go_upto_region 7 with fail
      refine wp_region_held_drew (S := (fun wx => wx.cell? ⟨w.heap.size + 2, 0, none⟩ = some (.slice (some ⟨w.heap.size + 1, 0, none⟩) n n))) (by kernel_rfl) (by have := (blkp H3.out).1; simpa using this) (fun hHeld => ?_)
      refine wpAnyH_take (i := 0) (v := ?v16) rfl (by kernel_rfl) (by kernel_rfl) (by kernel_rfl) (fun _ _ _ h => h) (Or.inl ⟨by rfl, ?y16⟩) (by assumption) ?r16
      case y16 => (intro w hSw; (try dsimp only at hSw); go_simp; try (with_reducible rfl))
      simp only [List.getElem_toArray, List.getElem_cons_zero, Act.put, List.setIfInBounds_toArray, List.set_cons_zero, List.set_cons_succ]
      refine wpAnyH_take (i := 1) (v := ?v17) rfl (by kernel_rfl) (by kernel_rfl) (by kernel_rfl) (fun _ _ _ h => h) (Or.inl ⟨by rfl, ?y17⟩) (by assumption) ?r17
      case y17 => (intro w hSw; (try dsimp only at hSw); go_simp; try (with_reducible rfl))
      simp only [List.getElem_toArray, List.getElem_cons_succ, List.getElem_cons_zero, Act.put, List.setIfInBounds_toArray, List.set_cons_zero, List.set_cons_succ]
      refine wpAnyH_take (i := 2) (v := ?v18) rfl (by kernel_rfl) (by kernel_rfl) (by kernel_rfl) (fun _ _ _ h => h) (Or.inl ⟨by rfl, ?y18⟩) (by assumption) ?r18
      case y18 => (intro w hSw; (try dsimp only at hSw); go_simp; try (with_reducible rfl))
      simp only [List.getElem_toArray, List.getElem_cons_succ, List.getElem_cons_zero, Act.put, List.setIfInBounds_toArray, List.set_cons_zero, List.set_cons_succ]
      refine wpAnyH_ready (rs := [3]) (by kernel_rfl) (by simp) ?_
      refine AllReadyH.cons rfl (fun K hK => ?_) AllReadyH.nil
      simp only [List.getElem_toArray, List.getElem_cons_succ, List.getElem_cons_zero]
      go_simp
      obtain ⟨w6, hw6⟩ : ∃ w6, (wr.alloc OB).drew = w6 := ⟨_, rfl⟩
      have E6 := hide (show Below wr.heap.size wr w6 by rw [← hw6]; exact ((Below.refl wr.heap.size wr).alloc (Nat.le_refl _) _).drew)
      have I6 := hide (show w6.ownsRow wr.heap.size 3 1 (.slice (some ⟨wr.heap.size, 0, none⟩) 11 11) 11 (ints zr) from HOB.out _ _ hw6)
      rw [hw6]
      refine hK.out _ _ ?_ (fun hHeld => ?_)
      · exact (blkp (blk_kept H3.out E6.out)).1
      clear hK K hw6
      try simp only [Act.put, List.setIfInBounds_toArray, List.set_cons_zero, List.set_cons_succ]
      refine wpAnyH_take (i := 4) (v := ?v19) rfl (by kernel_rfl) (by kernel_rfl) (by kernel_rfl) (fun _ _ _ h => h) (Or.inl ⟨by rfl, ?y19⟩) (by assumption) ?r19
      case y19 => (intro w hSw; (try dsimp only at hSw); go_simp; try (with_reducible rfl))
      simp only [List.getElem_toArray, List.getElem_cons_succ, List.getElem_cons_zero, Act.put, List.setIfInBounds_toArray, List.set_cons_zero, List.set_cons_succ]
      refine wpAnyH_ready (rs := [5]) (by kernel_rfl) (by simp) ?_
      refine AllReadyH.cons rfl (fun K hK => ?_) AllReadyH.nil
      simp only [List.getElem_toArray, List.getElem_cons_succ, List.getElem_cons_zero]
      have O6 := hide (O.out.below E6.out)
      obtain ⟨a0, c0, _, hcl, _⟩ := O6.out.at k hlt
      have hfr := O6.out.row.frozenAt k
      have hP := O6.out.put k hlt zr (.slice (some ⟨wr.heap.size, 0, none⟩) 11 11) (own_baseR I6.out (by have := HZ.out; omega)) (fun i hi _ b hb e => by
        simp only [Value.ownBlock, Option.some.injEq] at hb
        have := (L8.own_lt (O.out.idx i hi) b e).2
        omega)
      go_simp
      have R8 := hide (set_old (p := ⟨w.heap.size + 1, k, none⟩) (v := .slice (some ⟨wr.heap.size, 0, none⟩) 11 11) (blk_kept H3.out E6.out) (by show w.heap.size + 1 ≠ _; omega))
      have Z8 := hide (set_old (p := ⟨w.heap.size + 1, k, none⟩) (v := .slice (some ⟨wr.heap.size, 0, none⟩) 11 11) (blk_kept H2.out E6.out) (by show w.heap.size + 1 ≠ _; omega))
      have O8 := hide hP.1
      have B8 := hide ((BW.out.trans (E6.out.mono BW.out.size)).setCell (p := ⟨w.heap.size + 1, k, none⟩) (by show w.heap.size ≤ w.heap.size + 1; omega) (.slice (some ⟨wr.heap.size, 0, none⟩) 11 11))
      refine hK.out _ _ ?_ (fun hHeld => ?_)
      · exact (blkp R8.out).1
      clear hK K hP hfr hcl
      try simp only [Act.put, List.setIfInBounds_toArray, List.set_cons_zero, List.set_cons_succ]
      refine wpAnyH_done (by kernel_rfl) ?_ _
      clear hHeld
      have HR := hide (show ∀ j, j < k + 1 → ((M.set k (zr, .slice (some ⟨wr.heap.size, 0, none⟩) 11 11)).getD j eV).1 = zr from fun j hj => by
        by_cases e : j = k
        · subst e; rw [L8.getD_self M j _ _ (by have := O.out.len; omega)]
        · rw [L8.getD_ne M k j _ _ e]; exact HM.out j (by omega))
      have HZ8 := hide (show w.heap.size + 3 ≤ (w6.setCell ⟨w.heap.size + 1, k, none⟩ (.slice (some ⟨wr.heap.size, 0, none⟩) 11 11)).heap.size by rw [World.size_setCell]; have h1 := HZ.out; have h2 := E6.out.size; omega)
      go_wp2
      go_roundw
      case rel => exact ⟨k + 1, _, by omega, by go_num, R8.out, Z8.out, O8.out, HR.out, HZ8.out, B8.out⟩
      case measure => simp [intOf]; omega
    · obtain rfl : k = n := by omega
      have hltI : ¬ (k : Int) < (k : Int) := by omega
      obtain ⟨r0, r1, _, _⟩ := blkp H3.out
      obtain ⟨z0, z1, y0, y1⟩ := blkp H2.out
      have HL := hide (list_sameR O.out.len (List.length_replicate (n := k) (a := zr)) (fun j hj => by rw [HM.out j hj]; simp [gi, List.getD, hj]))
      have d := blkp (set2 (a' := .slice (some ⟨w.heap.size + 1, 0, none⟩) k k) (b' := .int .i64 0) H2.out)
      obtain ⟨d0, d1, _, _⟩ := d
      have lt1 : (⟨w.heap.size, 0, none⟩ : Addr).block < w.heap.size + 1 := by show w.heap.size < _; omega
      have O9 := hide ((O.out.setC ⟨w.heap.size, 0, none⟩ (.slice (some ⟨w.heap.size + 1, 0, none⟩) k k) lt1).setC ⟨w.heap.size, 1, none⟩ (.int .i64 0) (by show w.heap.size < _; omega))
      have B9 := hide ((BW.out.setCell (p := ⟨w.heap.size, 0, none⟩) (Nat.le_refl _) (.slice (some ⟨w.heap.size + 1, 0, none⟩) k k)).setCell (p := ⟨w.heap.size, 1, none⟩) (Nat.le_refl _) (.int .i64 0))
      go_wp2
      refine bodyPost_ret (v := .tuple #[.agg #[.slice (some ⟨w.heap.size + 1, 0, none⟩) k k, .int .i64 0], .bool true]) (by simp [results, Try.f30, go_sem, d0, d1]) rfl ⟨_, rfl, ⟨M, HL.out, ?_⟩, B9.out⟩
      have := O9.out.base (b2 := w.heap.size) (by omega)
      rw [List.length_replicate]
      exact this
end Go.Proofs.Ytfmfnlpajoikmam.L15
