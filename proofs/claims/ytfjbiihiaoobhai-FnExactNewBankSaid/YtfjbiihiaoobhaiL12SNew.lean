/-
  Contract: spec.NewBank.
-/
import Derived.Test.YtfjbiihiaoobhaiL12SNM
import Derived.Test.YtfjbiihiaoobhaiAllI
import Derived.Test.YtfjbiihiaoobhaiIn
import Derived.Deep.AppendLies
import Derived.Deep.RegionHeld3
import Derived.Deep.CutRange
import Derived.Deep.DeepCutAuto
namespace Go.Proofs.Ytfjbiihiaoobhai.L12
open Go.RowKit L1 L9 Own Sli
set_option linter.unusedVariables false

theorem wrap_id12 {z : Int} (h1 : -9223372036854775808 ≤ z) (h2 : z ≤ 9223372036854775807) : IntKind.i64.wrap z = z := by
  simp only [IntKind.wrap, IntKind.bits, IntKind.signed]
  simp
  omega
theorem below_drewSN (w : World) : Below w.heap.size w w.drew := (Below.refl _ w).drew
set_option maxRecDepth 100000 in
set_option maxHeartbeats 4000000 in
theorem sNewBank_any (a : Option Addr) (cs : List Int) (n cap : Nat) (w : World) (hn : cs.length = n) (hs : Sl w a cs) (hn2 : n ≤ 1048576) (m : Bk) (ok : Bool) (hr : NwIs cs m ok) :
    Calls Try.prog 21 #[.slice a n cap] w (RetB w m ok) := by
  have ZB := hide ((Below.refl w.heap.size w).alloc (Nat.le_refl _) zB)
  have ZP := blk_newO w zB
  have HS0 := hide (hs.below ZB.out)
  by_cases h1 : 1 ≤ n ∧ n ≤ 5
  rotate_left
  · obtain ⟨rfl, rfl⟩ := hr.no (fun h => h1 (by have := h.1; omega))
    have CI := hide (fun wx => l1In_any (n : Int) 1 5 wx false (by simp; omega))
    obtain ⟨z0, z1, z2, z3, z4⟩ := blk5 ZP
    clear hr ZP hs hn h1
    go_enter Try.func21, Try.ntmps21
    go_wp2_with fail
    refine (CI.out _).mono ?_
    rintro e w1 ⟨rfl, rfl⟩
    go_wp2
    refine bodyPost_ret (v := .tuple #[.agg #[nilV, nilV, nilV, nilV, nilV], .bool false]) (by simp [results, Try.f21, go_sem, z0, z1, z2, z3, z4]) rfl (retB_zero ?_)
    first | exact ZB.out | exact five_zeroB ZB.out _ _ _ _ _
  obtain ⟨n1, n5⟩ := h1
  have CI := hide (fun wx => l1In_any (n : Int) 1 5 wx true (by simp; omega))
  obtain ⟨bc, hbc⟩ := dec_ex12 (∀ j, j < n → 0 ≤ cs.getD j 0 ∧ cs.getD j 0 ≤ 50)
  have CA := hide (fun wx (hsx : Sl wx a cs) => l1All_any a cs n cap 0 50 wx hn hsx hn2 bc hbc)
  cases bc with
  | false =>
    obtain ⟨rfl, rfl⟩ := hr.no (fun h => absurd (hbc.2 (fun j hj => h.2 j (by rw [hn]; exact hj))) (by simp))
    obtain ⟨z0, z1, z2, z3, z4⟩ := blk5 ZP
    clear hr ZP hs hn hbc
    go_enter Try.func21, Try.ntmps21
    go_wp2_with fail
    refine (CI.out _).mono ?_
    rintro e w1 ⟨rfl, rfl⟩
    go_wp2_with fail
    refine (CA.out _ HS0.out).mono ?_
    rintro e w1 ⟨rfl, rfl⟩
    go_wp2
    refine bodyPost_ret (v := .tuple #[.agg #[nilV, nilV, nilV, nilV, nilV], .bool false]) (by simp [results, Try.f21, go_sem, z0, z1, z2, z3, z4]) rfl (retB_zero ?_)
    first | exact ZB.out | exact five_zeroB ZB.out _ _ _ _ _
  | true =>
  obtain ⟨i0, hi, hz0, hz1, hz2⟩ := info_parts info_int
  obtain ⟨jint, hjint, hyint0, hyint1, hyint2⟩ := info_parts info_intS12
  obtain ⟨jbool, hjbool, hybool0, hybool1, hybool2⟩ := info_parts info_boolS12
  obtain ⟨N2, hN2⟩ : ∃ x : Nat, x = n * n := ⟨_, rfl⟩
  have hq : (n : Int) * (n : Int) = (N2 : Int) := by rw [hN2]; simp
  have hq2 : N2 ≤ 25 := by rw [hN2]; exact Nat.mul_le_mul n5 n5
  obtain ⟨OA, hOA, mk1⟩ := mk_ways N2 hq2
  obtain ⟨OI, hOI, mk2⟩ := mk_ints n n5
  obtain ⟨OB, hOB, mk3⟩ := mk_bools n n5
  have HOI := hide hOI
  have HOB := hide hOB
  have HN := hide hn
  have hNN : Hid (n * n ≤ 25) := hide (by omega)
  have HOA : Hid (OA = oSS (n * n)) := hide (by rw [hOA, hN2])
  have HN2 := hide hN2
  have HE : Hid (m = sbk cs n n ∧ ok = true) := hide (by
    obtain ⟨e1, e2⟩ := hr.yes ⟨⟨by omega, by omega⟩, fun j hj => hbc.1 rfl j (by rw [hn] at hj; exact hj)⟩
    exact ⟨by rw [e1]; exact sbk_all cs n hn, e2⟩)
  obtain ⟨p0, off0, rfl, _⟩ := hs 0 (by omega)
  have CSN : Hid (∀ u, Below w.heap.size w u → ∀ j x, (cs.map (Value.int .i64))[j]? = some x → u.cell? ((⟨p0, off0, none⟩ : Addr).add j) = some x) := hide (fun u hb j x hx => by
    obtain ⟨hj, hx2⟩ := List.getElem?_eq_some_iff.1 hx
    have hj' : j < cs.length := by simpa using hj
    obtain ⟨b', o', e', hc⟩ := hs j hj'
    cases e'
    have e0 : (⟨p0, off0, none⟩ : Addr).add j = ⟨p0, off0 + j, none⟩ := by unfold Addr.add; split <;> simp_all
    rw [e0, (hb.cell (p := ⟨p0, off0 + j, none⟩) (blk_lt hc)).trans hc, ← hx2]
    simp [List.getD, List.getElem?_eq_getElem hj'])
  obtain ⟨u0, hu0⟩ : ∃ u0, (w.alloc zB).drew = u0 := ⟨_, rfl⟩
  have A0 : Hid (N4 w cs n none none none none u0) := hide (by
    rw [← hu0]
    exact ⟨ZB.out.drew, by simp, ZP, fun x hx => (by cases hx), fun q hq => (by cases hq), fun q hq => (by cases hq), fun q hq => (by cases hq)⟩)
  have HU0 := hide hu0
  clear hr hbc hs hn hOI hOB hOA hN2 hu0 ZP
  go_enter Try.func21, Try.ntmps21
  go_wp2_with fail
  refine (CI.out _).mono ?_
  rintro e w1 ⟨rfl, rfl⟩
  go_wp2_with fail
  refine (CA.out _ HS0.out).mono ?_
  rintro e w1 ⟨rfl, rfl⟩
  go_upto_region 4 with fail
  go_cut [5] (fun t wx => ∃ X v, t = .pointer (some ⟨X, 0, none⟩) ∧ NB w X v (sbk cs n 0) wx)
  case first =>
    refine wp_region_held_drew (S := fun _ => True) (by kernel_rfl) trivial (fun hHeld => ?_)
    rw [HU0.out]
    refine wpAnyH_take (i := 1) (v := ?v23) rfl (by kernel_rfl) (by kernel_rfl) (by kernel_rfl) (fun _ _ _ h => h) (Or.inl ⟨by rfl, ?y23⟩) (by assumption) ?r23
    case y23 => (intro w hSw; (try dsimp only at hSw); go_simp; try (with_reducible rfl))
    simp only [List.getElem_toArray, List.getElem_cons_succ, List.getElem_cons_zero, Act.put, List.setIfInBounds_toArray, List.set_cons_zero, List.set_cons_succ]
    refine wpAnyH_take (i := 3) (v := ?v24) rfl (by kernel_rfl) (by kernel_rfl) (by kernel_rfl) (fun _ _ _ h => h) (Or.inl ⟨by rfl, ?y24⟩) (by assumption) ?r24
    case y24 => (intro w hSw; (try dsimp only at hSw); go_simp; try (with_reducible rfl))
    simp only [List.getElem_toArray, List.getElem_cons_succ, List.getElem_cons_zero, Act.put, List.setIfInBounds_toArray, List.set_cons_zero, List.set_cons_succ]
    refine wpAnyH_take (i := 4) (v := ?v25) rfl (by kernel_rfl) (by kernel_rfl) (by kernel_rfl) (fun _ _ _ h => h) (Or.inl ⟨by rfl, ?y25⟩) (by assumption) ?r25
    case y25 => (intro w hSw; (try dsimp only at hSw); go_simp; try (with_reducible rfl))
    simp only [List.getElem_toArray, List.getElem_cons_succ, List.getElem_cons_zero, Act.put, List.setIfInBounds_toArray, List.set_cons_zero, List.set_cons_succ]
    refine wpAnyH_take (i := 5) (v := ?v26) rfl (by kernel_rfl) (by kernel_rfl) (by kernel_rfl) (fun _ _ _ h => h) (Or.inl ⟨by rfl, ?y26⟩) (by assumption) ?r26
    case y26 => (intro w hSw; (try dsimp only at hSw); go_simp; try (with_reducible rfl))
    simp only [List.getElem_toArray, List.getElem_cons_succ, List.getElem_cons_zero, Act.put, List.setIfInBounds_toArray, List.set_cons_zero, List.set_cons_succ]
    rw [show IntKind.i64.wrap (N2 : Int) = (N2 : Int) from wrap_id12 (by omega) (by omega)]
    refine wpAnyH_ready (rs := [0, 6, 8]) (by kernel_rfl) (by simp) ?_
    refine AllReadyH.cons rfl (fun K hK => ?_) (AllReadyH.cons rfl (fun K hK => ?_) (AllReadyH.cons rfl (fun K hK => ?_) AllReadyH.nil))
    · simp only [List.getElem_toArray, List.getElem_cons_zero]
      go_simp
      refine hK.out _ _ ?_ (fun hHeld => ?_)
      · trivial
      clear hK K
      try simp only [Act.put, List.setIfInBounds_toArray, List.set_cons_zero, List.set_cons_succ]
      have A1 := hide (A0.out.newE _ rfl)
      obtain ⟨q1, hq1⟩ : ∃ q, u0.heap.size = q := ⟨_, rfl⟩
      obtain ⟨u1, hu1⟩ : ∃ u, u0.alloc (.cells #[] 3 (0, 0)) = u := ⟨_, rfl⟩
      rw [hu1] at A1 ⊢
      rw [hq1] at A1 ⊢
      clear hu1 hq1
      refine wpAnyH_ready (rs := [2, 6, 8]) (by kernel_rfl) (by simp) ?_
      refine AllReadyH.cons rfl (fun K hK => ?_) (AllReadyH.cons rfl (fun K hK => ?_) (AllReadyH.cons rfl (fun K hK => ?_) AllReadyH.nil))
      · simp only [List.getElem_toArray, List.getElem_cons_succ, List.getElem_cons_zero]
        rw [if_pos (by rfl)]
        refine wp_append_lies _ (.tmp 18) (.tmp 19) 24 rfl 0 3 i0 (.int .i64 0) 1 8 Try.underlying24 hi hz0 hz1 hz2 rfl (by decide) (.slice (some ⟨q1, 0, none⟩) 0 0) 0 [] rfl A1.out.own0 ⟨p0, off0, none⟩ n cap (cs.map (Value.int .i64)) rfl (by rw [List.length_map, HN.out, Nat.mul_one]) (CSN.out _ A1.out.bel) (by intro u hu; obtain ⟨z, _, rfl⟩ := List.mem_map.1 hu; rfl) (by omega) (by unfold maxLen; omega) (by omega) (Nat.zero_le _) _ rfl ?_
        intro g2 c2 w2 h4 hg4 hn4 _
        rw [Nat.zero_add, List.nil_append] at h4
        have A2 := hide (A1.out.app h4 hg4 hn4)
        clear h4 hg4 hn4
        refine hK.out _ _ ?_ (fun hHeld => ?_)
        · trivial
        clear hK K
        try simp only [Act.put, List.setIfInBounds_toArray, List.set_cons_zero, List.set_cons_succ]
        rw [Nat.zero_add]
        refine wpAnyH_ready (rs := [6, 8]) (by kernel_rfl) (by simp) ?_
        refine AllReadyH.cons rfl (fun K hK => ?_) (AllReadyH.cons rfl (fun K hK => ?_) AllReadyH.nil)
        · simp only [List.getElem_toArray, List.getElem_cons_succ, List.getElem_cons_zero]
          go_simp
          refine hK.out _ _ ?_ (fun hHeld => ?_)
          · trivial
          clear hK K
          try simp only [Act.put, List.setIfInBounds_toArray, List.set_cons_zero, List.set_cons_succ]
          have A3 := hide (A2.out.newG OA HOA.out)
          obtain ⟨q3, hq3⟩ : ∃ q, w2.heap.size = q := ⟨_, rfl⟩
          obtain ⟨u3, hu3⟩ : ∃ u, w2.alloc OA = u := ⟨_, rfl⟩
          rw [hu3] at A3 ⊢
          rw [hq3] at A3 ⊢
          clear hu3 hq3
          refine wpAnyH_take (i := 7) (v := ?v11) rfl (by kernel_rfl) (by kernel_rfl) (by kernel_rfl) (fun _ _ _ h => h) (Or.inl ⟨by rfl, ?y11⟩) (by assumption) ?r11
          case y11 => (intro w hSw; (try dsimp only at hSw); go_simp; try (with_reducible rfl))
          simp only [List.getElem_toArray, List.getElem_cons_succ, List.getElem_cons_zero, Act.put, List.setIfInBounds_toArray, List.set_cons_zero, List.set_cons_succ]
          refine wpAnyH_ready (rs := [8]) (by kernel_rfl) (by simp) ?_
          refine AllReadyH.cons rfl (fun K hK => ?_) AllReadyH.nil
          simp only [List.getElem_toArray, List.getElem_cons_succ, List.getElem_cons_zero]
          go_simp
          refine hK.out _ _ ?_ (fun hHeld => ?_)
          · trivial
          clear hK K
          try simp only [Act.put, List.setIfInBounds_toArray, List.set_cons_zero, List.set_cons_succ]
          have A4 := hide (A3.out.newB _ rfl)
          obtain ⟨q4, hq4⟩ : ∃ q, u3.heap.size = q := ⟨_, rfl⟩
          obtain ⟨u4, hu4⟩ : ∃ u, u3.alloc zB = u := ⟨_, rfl⟩
          rw [hu4] at A4 ⊢
          rw [hq4] at A4 ⊢
          clear hu4 hq4
          refine wpAnyH_ready (rs := [9]) (by kernel_rfl) (by simp) ?_
          refine AllReadyH.cons rfl (fun K hK => ?_) AllReadyH.nil
          simp only [List.getElem_toArray, List.getElem_cons_succ, List.getElem_cons_zero]
          have bb := (A4.out.b q4 rfl).1
          obtain ⟨b0, b1, b2, b3, b4⟩ := blk5 bb
          have bf : ∀ i, u4.frozen? ⟨q4, i, none⟩ = false := fun i => frzO bb i
          have F := hide (A4.out.fin HN.out hNN.out)
          rw [← HN2.out] at F
          clear bb
          go_simp
          refine hK.out _ _ ?_ (fun hHeld => ?_)
          · trivial
          clear hK K
          try simp only [Act.put, List.setIfInBounds_toArray, List.set_cons_zero, List.set_cons_succ]
          refine wpAnyH_done (by kernel_rfl) ?_ _
          clear hHeld
          go_wp2_with fail
          go_meet
          exact ⟨_, _, rfl, F.out⟩
        · simp only [List.getElem_toArray, List.getElem_cons_succ, List.getElem_cons_zero]
          go_simp
          refine hK.out _ _ ?_ (fun hHeld => ?_)
          · trivial
          clear hK K
          try simp only [Act.put, List.setIfInBounds_toArray, List.set_cons_zero, List.set_cons_succ]
          have A6 := hide (A2.out.newB _ rfl)
          obtain ⟨q6, hq6⟩ : ∃ q, w2.heap.size = q := ⟨_, rfl⟩
          obtain ⟨u6, hu6⟩ : ∃ u, w2.alloc zB = u := ⟨_, rfl⟩
          rw [hu6] at A6 ⊢
          rw [hq6] at A6 ⊢
          clear hu6 hq6
          refine wpAnyH_ready (rs := [6]) (by kernel_rfl) (by simp) ?_
          refine AllReadyH.cons rfl (fun K hK => ?_) AllReadyH.nil
          simp only [List.getElem_toArray, List.getElem_cons_succ, List.getElem_cons_zero]
          go_simp
          refine hK.out _ _ ?_ (fun hHeld => ?_)
          · trivial
          clear hK K
          try simp only [Act.put, List.setIfInBounds_toArray, List.set_cons_zero, List.set_cons_succ]
          have A7 := hide (A6.out.newG OA HOA.out)
          obtain ⟨q7, hq7⟩ : ∃ q, u6.heap.size = q := ⟨_, rfl⟩
          obtain ⟨u7, hu7⟩ : ∃ u, u6.alloc OA = u := ⟨_, rfl⟩
          rw [hu7] at A7 ⊢
          rw [hq7] at A7 ⊢
          clear hu7 hq7
          refine wpAnyH_take (i := 7) (v := ?v12) rfl (by kernel_rfl) (by kernel_rfl) (by kernel_rfl) (fun _ _ _ h => h) (Or.inl ⟨by rfl, ?y12⟩) (by assumption) ?r12
          case y12 => (intro w hSw; (try dsimp only at hSw); go_simp; try (with_reducible rfl))
          simp only [List.getElem_toArray, List.getElem_cons_succ, List.getElem_cons_zero, Act.put, List.setIfInBounds_toArray, List.set_cons_zero, List.set_cons_succ]
          refine wpAnyH_ready (rs := [9]) (by kernel_rfl) (by simp) ?_
          refine AllReadyH.cons rfl (fun K hK => ?_) AllReadyH.nil
          simp only [List.getElem_toArray, List.getElem_cons_succ, List.getElem_cons_zero]
          have bb := (A7.out.b q6 rfl).1
          obtain ⟨b0, b1, b2, b3, b4⟩ := blk5 bb
          have bf : ∀ i, u7.frozen? ⟨q6, i, none⟩ = false := fun i => frzO bb i
          have F := hide (A7.out.fin HN.out hNN.out)
          rw [← HN2.out] at F
          clear bb
          go_simp
          refine hK.out _ _ ?_ (fun hHeld => ?_)
          · trivial
          clear hK K
          try simp only [Act.put, List.setIfInBounds_toArray, List.set_cons_zero, List.set_cons_succ]
          refine wpAnyH_done (by kernel_rfl) ?_ _
          clear hHeld
          go_wp2_with fail
          go_meet
          exact ⟨_, _, rfl, F.out⟩
      · simp only [List.getElem_toArray, List.getElem_cons_succ, List.getElem_cons_zero]
        go_simp
        refine hK.out _ _ ?_ (fun hHeld => ?_)
        · trivial
        clear hK K
        try simp only [Act.put, List.setIfInBounds_toArray, List.set_cons_zero, List.set_cons_succ]
        have A9 := hide (A1.out.newG OA HOA.out)
        obtain ⟨q9, hq9⟩ : ∃ q, u1.heap.size = q := ⟨_, rfl⟩
        obtain ⟨u9, hu9⟩ : ∃ u, u1.alloc OA = u := ⟨_, rfl⟩
        rw [hu9] at A9 ⊢
        rw [hq9] at A9 ⊢
        clear hu9 hq9
        refine wpAnyH_ready (rs := [2, 8]) (by kernel_rfl) (by simp) ?_
        refine AllReadyH.cons rfl (fun K hK => ?_) (AllReadyH.cons rfl (fun K hK => ?_) AllReadyH.nil)
        · simp only [List.getElem_toArray, List.getElem_cons_succ, List.getElem_cons_zero]
          rw [if_pos (by rfl)]
          refine wp_append_lies _ (.tmp 18) (.tmp 19) 24 rfl 0 3 i0 (.int .i64 0) 1 8 Try.underlying24 hi hz0 hz1 hz2 rfl (by decide) (.slice (some ⟨q1, 0, none⟩) 0 0) 0 [] rfl A9.out.own0 ⟨p0, off0, none⟩ n cap (cs.map (Value.int .i64)) rfl (by rw [List.length_map, HN.out, Nat.mul_one]) (CSN.out _ A9.out.bel) (by intro u hu; obtain ⟨z, _, rfl⟩ := List.mem_map.1 hu; rfl) (by omega) (by unfold maxLen; omega) (by omega) (Nat.zero_le _) _ rfl ?_
          intro g10 c10 w10 h4 hg4 hn4 _
          rw [Nat.zero_add, List.nil_append] at h4
          have A10 := hide (A9.out.app h4 hg4 hn4)
          clear h4 hg4 hn4
          refine hK.out _ _ ?_ (fun hHeld => ?_)
          · trivial
          clear hK K
          try simp only [Act.put, List.setIfInBounds_toArray, List.set_cons_zero, List.set_cons_succ]
          rw [Nat.zero_add]
          refine wpAnyH_take (i := 7) (v := ?v13) rfl (by kernel_rfl) (by kernel_rfl) (by kernel_rfl) (fun _ _ _ h => h) (Or.inl ⟨by rfl, ?y13⟩) (by assumption) ?r13
          case y13 => (intro w hSw; (try dsimp only at hSw); go_simp; try (with_reducible rfl))
          simp only [List.getElem_toArray, List.getElem_cons_succ, List.getElem_cons_zero, Act.put, List.setIfInBounds_toArray, List.set_cons_zero, List.set_cons_succ]
          refine wpAnyH_ready (rs := [8]) (by kernel_rfl) (by simp) ?_
          refine AllReadyH.cons rfl (fun K hK => ?_) AllReadyH.nil
          simp only [List.getElem_toArray, List.getElem_cons_succ, List.getElem_cons_zero]
          go_simp
          refine hK.out _ _ ?_ (fun hHeld => ?_)
          · trivial
          clear hK K
          try simp only [Act.put, List.setIfInBounds_toArray, List.set_cons_zero, List.set_cons_succ]
          have A11 := hide (A10.out.newB _ rfl)
          obtain ⟨q11, hq11⟩ : ∃ q, w10.heap.size = q := ⟨_, rfl⟩
          obtain ⟨u11, hu11⟩ : ∃ u, w10.alloc zB = u := ⟨_, rfl⟩
          rw [hu11] at A11 ⊢
          rw [hq11] at A11 ⊢
          clear hu11 hq11
          refine wpAnyH_ready (rs := [9]) (by kernel_rfl) (by simp) ?_
          refine AllReadyH.cons rfl (fun K hK => ?_) AllReadyH.nil
          simp only [List.getElem_toArray, List.getElem_cons_succ, List.getElem_cons_zero]
          have bb := (A11.out.b q11 rfl).1
          obtain ⟨b0, b1, b2, b3, b4⟩ := blk5 bb
          have bf : ∀ i, u11.frozen? ⟨q11, i, none⟩ = false := fun i => frzO bb i
          have F := hide (A11.out.fin HN.out hNN.out)
          rw [← HN2.out] at F
          clear bb
          go_simp
          refine hK.out _ _ ?_ (fun hHeld => ?_)
          · trivial
          clear hK K
          try simp only [Act.put, List.setIfInBounds_toArray, List.set_cons_zero, List.set_cons_succ]
          refine wpAnyH_done (by kernel_rfl) ?_ _
          clear hHeld
          go_wp2_with fail
          go_meet
          exact ⟨_, _, rfl, F.out⟩
        · simp only [List.getElem_toArray, List.getElem_cons_succ, List.getElem_cons_zero]
          go_simp
          refine hK.out _ _ ?_ (fun hHeld => ?_)
          · trivial
          clear hK K
          try simp only [Act.put, List.setIfInBounds_toArray, List.set_cons_zero, List.set_cons_succ]
          have A13 := hide (A9.out.newB _ rfl)
          obtain ⟨q13, hq13⟩ : ∃ q, u9.heap.size = q := ⟨_, rfl⟩
          obtain ⟨u13, hu13⟩ : ∃ u, u9.alloc zB = u := ⟨_, rfl⟩
          rw [hu13] at A13 ⊢
          rw [hq13] at A13 ⊢
          clear hu13 hq13
          refine wpAnyH_ready (rs := [2]) (by kernel_rfl) (by simp) ?_
          refine AllReadyH.cons rfl (fun K hK => ?_) AllReadyH.nil
          simp only [List.getElem_toArray, List.getElem_cons_succ, List.getElem_cons_zero]
          rw [if_pos (by rfl)]
          refine wp_append_lies _ (.tmp 18) (.tmp 19) 24 rfl 0 3 i0 (.int .i64 0) 1 8 Try.underlying24 hi hz0 hz1 hz2 rfl (by decide) (.slice (some ⟨q1, 0, none⟩) 0 0) 0 [] rfl A13.out.own0 ⟨p0, off0, none⟩ n cap (cs.map (Value.int .i64)) rfl (by rw [List.length_map, HN.out, Nat.mul_one]) (CSN.out _ A13.out.bel) (by intro u hu; obtain ⟨z, _, rfl⟩ := List.mem_map.1 hu; rfl) (by omega) (by unfold maxLen; omega) (by omega) (Nat.zero_le _) _ rfl ?_
          intro g14 c14 w14 h4 hg4 hn4 _
          rw [Nat.zero_add, List.nil_append] at h4
          have A14 := hide (A13.out.app h4 hg4 hn4)
          clear h4 hg4 hn4
          refine hK.out _ _ ?_ (fun hHeld => ?_)
          · trivial
          clear hK K
          try simp only [Act.put, List.setIfInBounds_toArray, List.set_cons_zero, List.set_cons_succ]
          rw [Nat.zero_add]
          refine wpAnyH_take (i := 7) (v := ?v14) rfl (by kernel_rfl) (by kernel_rfl) (by kernel_rfl) (fun _ _ _ h => h) (Or.inl ⟨by rfl, ?y14⟩) (by assumption) ?r14
          case y14 => (intro w hSw; (try dsimp only at hSw); go_simp; try (with_reducible rfl))
          simp only [List.getElem_toArray, List.getElem_cons_succ, List.getElem_cons_zero, Act.put, List.setIfInBounds_toArray, List.set_cons_zero, List.set_cons_succ]
          refine wpAnyH_ready (rs := [9]) (by kernel_rfl) (by simp) ?_
          refine AllReadyH.cons rfl (fun K hK => ?_) AllReadyH.nil
          simp only [List.getElem_toArray, List.getElem_cons_succ, List.getElem_cons_zero]
          have bb := (A14.out.b q13 rfl).1
          obtain ⟨b0, b1, b2, b3, b4⟩ := blk5 bb
          have bf : ∀ i, w14.frozen? ⟨q13, i, none⟩ = false := fun i => frzO bb i
          have F := hide (A14.out.fin HN.out hNN.out)
          rw [← HN2.out] at F
          clear bb
          go_simp
          refine hK.out _ _ ?_ (fun hHeld => ?_)
          · trivial
          clear hK K
          try simp only [Act.put, List.setIfInBounds_toArray, List.set_cons_zero, List.set_cons_succ]
          refine wpAnyH_done (by kernel_rfl) ?_ _
          clear hHeld
          go_wp2_with fail
          go_meet
          exact ⟨_, _, rfl, F.out⟩
      · simp only [List.getElem_toArray, List.getElem_cons_succ, List.getElem_cons_zero]
        go_simp
        refine hK.out _ _ ?_ (fun hHeld => ?_)
        · trivial
        clear hK K
        try simp only [Act.put, List.setIfInBounds_toArray, List.set_cons_zero, List.set_cons_succ]
        have A16 := hide (A1.out.newB _ rfl)
        obtain ⟨q16, hq16⟩ : ∃ q, u1.heap.size = q := ⟨_, rfl⟩
        obtain ⟨u16, hu16⟩ : ∃ u, u1.alloc zB = u := ⟨_, rfl⟩
        rw [hu16] at A16 ⊢
        rw [hq16] at A16 ⊢
        clear hu16 hq16
        refine wpAnyH_ready (rs := [2, 6]) (by kernel_rfl) (by simp) ?_
        refine AllReadyH.cons rfl (fun K hK => ?_) (AllReadyH.cons rfl (fun K hK => ?_) AllReadyH.nil)
        · simp only [List.getElem_toArray, List.getElem_cons_succ, List.getElem_cons_zero]
          rw [if_pos (by rfl)]
          refine wp_append_lies _ (.tmp 18) (.tmp 19) 24 rfl 0 3 i0 (.int .i64 0) 1 8 Try.underlying24 hi hz0 hz1 hz2 rfl (by decide) (.slice (some ⟨q1, 0, none⟩) 0 0) 0 [] rfl A16.out.own0 ⟨p0, off0, none⟩ n cap (cs.map (Value.int .i64)) rfl (by rw [List.length_map, HN.out, Nat.mul_one]) (CSN.out _ A16.out.bel) (by intro u hu; obtain ⟨z, _, rfl⟩ := List.mem_map.1 hu; rfl) (by omega) (by unfold maxLen; omega) (by omega) (Nat.zero_le _) _ rfl ?_
          intro g17 c17 w17 h4 hg4 hn4 _
          rw [Nat.zero_add, List.nil_append] at h4
          have A17 := hide (A16.out.app h4 hg4 hn4)
          clear h4 hg4 hn4
          refine hK.out _ _ ?_ (fun hHeld => ?_)
          · trivial
          clear hK K
          try simp only [Act.put, List.setIfInBounds_toArray, List.set_cons_zero, List.set_cons_succ]
          rw [Nat.zero_add]
          refine wpAnyH_ready (rs := [6]) (by kernel_rfl) (by simp) ?_
          refine AllReadyH.cons rfl (fun K hK => ?_) AllReadyH.nil
          simp only [List.getElem_toArray, List.getElem_cons_succ, List.getElem_cons_zero]
          go_simp
          refine hK.out _ _ ?_ (fun hHeld => ?_)
          · trivial
          clear hK K
          try simp only [Act.put, List.setIfInBounds_toArray, List.set_cons_zero, List.set_cons_succ]
          have A18 := hide (A17.out.newG OA HOA.out)
          obtain ⟨q18, hq18⟩ : ∃ q, w17.heap.size = q := ⟨_, rfl⟩
          obtain ⟨u18, hu18⟩ : ∃ u, w17.alloc OA = u := ⟨_, rfl⟩
          rw [hu18] at A18 ⊢
          rw [hq18] at A18 ⊢
          clear hu18 hq18
          refine wpAnyH_take (i := 7) (v := ?v15) rfl (by kernel_rfl) (by kernel_rfl) (by kernel_rfl) (fun _ _ _ h => h) (Or.inl ⟨by rfl, ?y15⟩) (by assumption) ?r15
          case y15 => (intro w hSw; (try dsimp only at hSw); go_simp; try (with_reducible rfl))
          simp only [List.getElem_toArray, List.getElem_cons_succ, List.getElem_cons_zero, Act.put, List.setIfInBounds_toArray, List.set_cons_zero, List.set_cons_succ]
          refine wpAnyH_ready (rs := [9]) (by kernel_rfl) (by simp) ?_
          refine AllReadyH.cons rfl (fun K hK => ?_) AllReadyH.nil
          simp only [List.getElem_toArray, List.getElem_cons_succ, List.getElem_cons_zero]
          have bb := (A18.out.b q16 rfl).1
          obtain ⟨b0, b1, b2, b3, b4⟩ := blk5 bb
          have bf : ∀ i, u18.frozen? ⟨q16, i, none⟩ = false := fun i => frzO bb i
          have F := hide (A18.out.fin HN.out hNN.out)
          rw [← HN2.out] at F
          clear bb
          go_simp
          refine hK.out _ _ ?_ (fun hHeld => ?_)
          · trivial
          clear hK K
          try simp only [Act.put, List.setIfInBounds_toArray, List.set_cons_zero, List.set_cons_succ]
          refine wpAnyH_done (by kernel_rfl) ?_ _
          clear hHeld
          go_wp2_with fail
          go_meet
          exact ⟨_, _, rfl, F.out⟩
        · simp only [List.getElem_toArray, List.getElem_cons_succ, List.getElem_cons_zero]
          go_simp
          refine hK.out _ _ ?_ (fun hHeld => ?_)
          · trivial
          clear hK K
          try simp only [Act.put, List.setIfInBounds_toArray, List.set_cons_zero, List.set_cons_succ]
          have A20 := hide (A16.out.newG OA HOA.out)
          obtain ⟨q20, hq20⟩ : ∃ q, u16.heap.size = q := ⟨_, rfl⟩
          obtain ⟨u20, hu20⟩ : ∃ u, u16.alloc OA = u := ⟨_, rfl⟩
          rw [hu20] at A20 ⊢
          rw [hq20] at A20 ⊢
          clear hu20 hq20
          refine wpAnyH_ready (rs := [2]) (by kernel_rfl) (by simp) ?_
          refine AllReadyH.cons rfl (fun K hK => ?_) AllReadyH.nil
          simp only [List.getElem_toArray, List.getElem_cons_succ, List.getElem_cons_zero]
          rw [if_pos (by rfl)]
          refine wp_append_lies _ (.tmp 18) (.tmp 19) 24 rfl 0 3 i0 (.int .i64 0) 1 8 Try.underlying24 hi hz0 hz1 hz2 rfl (by decide) (.slice (some ⟨q1, 0, none⟩) 0 0) 0 [] rfl A20.out.own0 ⟨p0, off0, none⟩ n cap (cs.map (Value.int .i64)) rfl (by rw [List.length_map, HN.out, Nat.mul_one]) (CSN.out _ A20.out.bel) (by intro u hu; obtain ⟨z, _, rfl⟩ := List.mem_map.1 hu; rfl) (by omega) (by unfold maxLen; omega) (by omega) (Nat.zero_le _) _ rfl ?_
          intro g21 c21 w21 h4 hg4 hn4 _
          rw [Nat.zero_add, List.nil_append] at h4
          have A21 := hide (A20.out.app h4 hg4 hn4)
          clear h4 hg4 hn4
          refine hK.out _ _ ?_ (fun hHeld => ?_)
          · trivial
          clear hK K
          try simp only [Act.put, List.setIfInBounds_toArray, List.set_cons_zero, List.set_cons_succ]
          rw [Nat.zero_add]
          refine wpAnyH_take (i := 7) (v := ?v16) rfl (by kernel_rfl) (by kernel_rfl) (by kernel_rfl) (fun _ _ _ h => h) (Or.inl ⟨by rfl, ?y16⟩) (by assumption) ?r16
          case y16 => (intro w hSw; (try dsimp only at hSw); go_simp; try (with_reducible rfl))
          simp only [List.getElem_toArray, List.getElem_cons_succ, List.getElem_cons_zero, Act.put, List.setIfInBounds_toArray, List.set_cons_zero, List.set_cons_succ]
          refine wpAnyH_ready (rs := [9]) (by kernel_rfl) (by simp) ?_
          refine AllReadyH.cons rfl (fun K hK => ?_) AllReadyH.nil
          simp only [List.getElem_toArray, List.getElem_cons_succ, List.getElem_cons_zero]
          have bb := (A21.out.b q16 rfl).1
          obtain ⟨b0, b1, b2, b3, b4⟩ := blk5 bb
          have bf : ∀ i, w21.frozen? ⟨q16, i, none⟩ = false := fun i => frzO bb i
          have F := hide (A21.out.fin HN.out hNN.out)
          rw [← HN2.out] at F
          clear bb
          go_simp
          refine hK.out _ _ ?_ (fun hHeld => ?_)
          · trivial
          clear hK K
          try simp only [Act.put, List.setIfInBounds_toArray, List.set_cons_zero, List.set_cons_succ]
          refine wpAnyH_done (by kernel_rfl) ?_ _
          clear hHeld
          go_wp2_with fail
          go_meet
          exact ⟨_, _, rfl, F.out⟩
    · simp only [List.getElem_toArray, List.getElem_cons_succ, List.getElem_cons_zero]
      go_simp
      refine hK.out _ _ ?_ (fun hHeld => ?_)
      · trivial
      clear hK K
      try simp only [Act.put, List.setIfInBounds_toArray, List.set_cons_zero, List.set_cons_succ]
      have A23 := hide (A0.out.newG OA HOA.out)
      obtain ⟨q23, hq23⟩ : ∃ q, u0.heap.size = q := ⟨_, rfl⟩
      obtain ⟨u23, hu23⟩ : ∃ u, u0.alloc OA = u := ⟨_, rfl⟩
      rw [hu23] at A23 ⊢
      rw [hq23] at A23 ⊢
      clear hu23 hq23
      refine wpAnyH_ready (rs := [0, 8]) (by kernel_rfl) (by simp) ?_
      refine AllReadyH.cons rfl (fun K hK => ?_) (AllReadyH.cons rfl (fun K hK => ?_) AllReadyH.nil)
      · simp only [List.getElem_toArray, List.getElem_cons_zero]
        go_simp
        refine hK.out _ _ ?_ (fun hHeld => ?_)
        · trivial
        clear hK K
        try simp only [Act.put, List.setIfInBounds_toArray, List.set_cons_zero, List.set_cons_succ]
        have A24 := hide (A23.out.newE _ rfl)
        obtain ⟨q24, hq24⟩ : ∃ q, u23.heap.size = q := ⟨_, rfl⟩
        obtain ⟨u24, hu24⟩ : ∃ u, u23.alloc (.cells #[] 3 (0, 0)) = u := ⟨_, rfl⟩
        rw [hu24] at A24 ⊢
        rw [hq24] at A24 ⊢
        clear hu24 hq24
        refine wpAnyH_ready (rs := [2, 8]) (by kernel_rfl) (by simp) ?_
        refine AllReadyH.cons rfl (fun K hK => ?_) (AllReadyH.cons rfl (fun K hK => ?_) AllReadyH.nil)
        · simp only [List.getElem_toArray, List.getElem_cons_succ, List.getElem_cons_zero]
          rw [if_pos (by rfl)]
          refine wp_append_lies _ (.tmp 18) (.tmp 19) 24 rfl 0 3 i0 (.int .i64 0) 1 8 Try.underlying24 hi hz0 hz1 hz2 rfl (by decide) (.slice (some ⟨q24, 0, none⟩) 0 0) 0 [] rfl A24.out.own0 ⟨p0, off0, none⟩ n cap (cs.map (Value.int .i64)) rfl (by rw [List.length_map, HN.out, Nat.mul_one]) (CSN.out _ A24.out.bel) (by intro u hu; obtain ⟨z, _, rfl⟩ := List.mem_map.1 hu; rfl) (by omega) (by unfold maxLen; omega) (by omega) (Nat.zero_le _) _ rfl ?_
          intro g25 c25 w25 h4 hg4 hn4 _
          rw [Nat.zero_add, List.nil_append] at h4
          have A25 := hide (A24.out.app h4 hg4 hn4)
          clear h4 hg4 hn4
          refine hK.out _ _ ?_ (fun hHeld => ?_)
          · trivial
          clear hK K
          try simp only [Act.put, List.setIfInBounds_toArray, List.set_cons_zero, List.set_cons_succ]
          rw [Nat.zero_add]
          refine wpAnyH_take (i := 7) (v := ?v17) rfl (by kernel_rfl) (by kernel_rfl) (by kernel_rfl) (fun _ _ _ h => h) (Or.inl ⟨by rfl, ?y17⟩) (by assumption) ?r17
          case y17 => (intro w hSw; (try dsimp only at hSw); go_simp; try (with_reducible rfl))
          simp only [List.getElem_toArray, List.getElem_cons_succ, List.getElem_cons_zero, Act.put, List.setIfInBounds_toArray, List.set_cons_zero, List.set_cons_succ]
          refine wpAnyH_ready (rs := [8]) (by kernel_rfl) (by simp) ?_
          refine AllReadyH.cons rfl (fun K hK => ?_) AllReadyH.nil
          simp only [List.getElem_toArray, List.getElem_cons_succ, List.getElem_cons_zero]
          go_simp
          refine hK.out _ _ ?_ (fun hHeld => ?_)
          · trivial
          clear hK K
          try simp only [Act.put, List.setIfInBounds_toArray, List.set_cons_zero, List.set_cons_succ]
          have A26 := hide (A25.out.newB _ rfl)
          obtain ⟨q26, hq26⟩ : ∃ q, w25.heap.size = q := ⟨_, rfl⟩
          obtain ⟨u26, hu26⟩ : ∃ u, w25.alloc zB = u := ⟨_, rfl⟩
          rw [hu26] at A26 ⊢
          rw [hq26] at A26 ⊢
          clear hu26 hq26
          refine wpAnyH_ready (rs := [9]) (by kernel_rfl) (by simp) ?_
          refine AllReadyH.cons rfl (fun K hK => ?_) AllReadyH.nil
          simp only [List.getElem_toArray, List.getElem_cons_succ, List.getElem_cons_zero]
          have bb := (A26.out.b q26 rfl).1
          obtain ⟨b0, b1, b2, b3, b4⟩ := blk5 bb
          have bf : ∀ i, u26.frozen? ⟨q26, i, none⟩ = false := fun i => frzO bb i
          have F := hide (A26.out.fin HN.out hNN.out)
          rw [← HN2.out] at F
          clear bb
          go_simp
          refine hK.out _ _ ?_ (fun hHeld => ?_)
          · trivial
          clear hK K
          try simp only [Act.put, List.setIfInBounds_toArray, List.set_cons_zero, List.set_cons_succ]
          refine wpAnyH_done (by kernel_rfl) ?_ _
          clear hHeld
          go_wp2_with fail
          go_meet
          exact ⟨_, _, rfl, F.out⟩
        · simp only [List.getElem_toArray, List.getElem_cons_succ, List.getElem_cons_zero]
          go_simp
          refine hK.out _ _ ?_ (fun hHeld => ?_)
          · trivial
          clear hK K
          try simp only [Act.put, List.setIfInBounds_toArray, List.set_cons_zero, List.set_cons_succ]
          have A28 := hide (A24.out.newB _ rfl)
          obtain ⟨q28, hq28⟩ : ∃ q, u24.heap.size = q := ⟨_, rfl⟩
          obtain ⟨u28, hu28⟩ : ∃ u, u24.alloc zB = u := ⟨_, rfl⟩
          rw [hu28] at A28 ⊢
          rw [hq28] at A28 ⊢
          clear hu28 hq28
          refine wpAnyH_ready (rs := [2]) (by kernel_rfl) (by simp) ?_
          refine AllReadyH.cons rfl (fun K hK => ?_) AllReadyH.nil
          simp only [List.getElem_toArray, List.getElem_cons_succ, List.getElem_cons_zero]
          rw [if_pos (by rfl)]
          refine wp_append_lies _ (.tmp 18) (.tmp 19) 24 rfl 0 3 i0 (.int .i64 0) 1 8 Try.underlying24 hi hz0 hz1 hz2 rfl (by decide) (.slice (some ⟨q24, 0, none⟩) 0 0) 0 [] rfl A28.out.own0 ⟨p0, off0, none⟩ n cap (cs.map (Value.int .i64)) rfl (by rw [List.length_map, HN.out, Nat.mul_one]) (CSN.out _ A28.out.bel) (by intro u hu; obtain ⟨z, _, rfl⟩ := List.mem_map.1 hu; rfl) (by omega) (by unfold maxLen; omega) (by omega) (Nat.zero_le _) _ rfl ?_
          intro g29 c29 w29 h4 hg4 hn4 _
          rw [Nat.zero_add, List.nil_append] at h4
          have A29 := hide (A28.out.app h4 hg4 hn4)
          clear h4 hg4 hn4
          refine hK.out _ _ ?_ (fun hHeld => ?_)
          · trivial
          clear hK K
          try simp only [Act.put, List.setIfInBounds_toArray, List.set_cons_zero, List.set_cons_succ]
          rw [Nat.zero_add]
          refine wpAnyH_take (i := 7) (v := ?v18) rfl (by kernel_rfl) (by kernel_rfl) (by kernel_rfl) (fun _ _ _ h => h) (Or.inl ⟨by rfl, ?y18⟩) (by assumption) ?r18
          case y18 => (intro w hSw; (try dsimp only at hSw); go_simp; try (with_reducible rfl))
          simp only [List.getElem_toArray, List.getElem_cons_succ, List.getElem_cons_zero, Act.put, List.setIfInBounds_toArray, List.set_cons_zero, List.set_cons_succ]
          refine wpAnyH_ready (rs := [9]) (by kernel_rfl) (by simp) ?_
          refine AllReadyH.cons rfl (fun K hK => ?_) AllReadyH.nil
          simp only [List.getElem_toArray, List.getElem_cons_succ, List.getElem_cons_zero]
          have bb := (A29.out.b q28 rfl).1
          obtain ⟨b0, b1, b2, b3, b4⟩ := blk5 bb
          have bf : ∀ i, w29.frozen? ⟨q28, i, none⟩ = false := fun i => frzO bb i
          have F := hide (A29.out.fin HN.out hNN.out)
          rw [← HN2.out] at F
          clear bb
          go_simp
          refine hK.out _ _ ?_ (fun hHeld => ?_)
          · trivial
          clear hK K
          try simp only [Act.put, List.setIfInBounds_toArray, List.set_cons_zero, List.set_cons_succ]
          refine wpAnyH_done (by kernel_rfl) ?_ _
          clear hHeld
          go_wp2_with fail
          go_meet
          exact ⟨_, _, rfl, F.out⟩
      · simp only [List.getElem_toArray, List.getElem_cons_succ, List.getElem_cons_zero]
        go_simp
        refine hK.out _ _ ?_ (fun hHeld => ?_)
        · trivial
        clear hK K
        try simp only [Act.put, List.setIfInBounds_toArray, List.set_cons_zero, List.set_cons_succ]
        have A31 := hide (A23.out.newB _ rfl)
        obtain ⟨q31, hq31⟩ : ∃ q, u23.heap.size = q := ⟨_, rfl⟩
        obtain ⟨u31, hu31⟩ : ∃ u, u23.alloc zB = u := ⟨_, rfl⟩
        rw [hu31] at A31 ⊢
        rw [hq31] at A31 ⊢
        clear hu31 hq31
        refine wpAnyH_ready (rs := [0]) (by kernel_rfl) (by simp) ?_
        refine AllReadyH.cons rfl (fun K hK => ?_) AllReadyH.nil
        simp only [List.getElem_toArray, List.getElem_cons_zero]
        go_simp
        refine hK.out _ _ ?_ (fun hHeld => ?_)
        · trivial
        clear hK K
        try simp only [Act.put, List.setIfInBounds_toArray, List.set_cons_zero, List.set_cons_succ]
        have A32 := hide (A31.out.newE _ rfl)
        obtain ⟨q32, hq32⟩ : ∃ q, u31.heap.size = q := ⟨_, rfl⟩
        obtain ⟨u32, hu32⟩ : ∃ u, u31.alloc (.cells #[] 3 (0, 0)) = u := ⟨_, rfl⟩
        rw [hu32] at A32 ⊢
        rw [hq32] at A32 ⊢
        clear hu32 hq32
        refine wpAnyH_ready (rs := [2]) (by kernel_rfl) (by simp) ?_
        refine AllReadyH.cons rfl (fun K hK => ?_) AllReadyH.nil
        simp only [List.getElem_toArray, List.getElem_cons_succ, List.getElem_cons_zero]
        rw [if_pos (by rfl)]
        refine wp_append_lies _ (.tmp 18) (.tmp 19) 24 rfl 0 3 i0 (.int .i64 0) 1 8 Try.underlying24 hi hz0 hz1 hz2 rfl (by decide) (.slice (some ⟨q32, 0, none⟩) 0 0) 0 [] rfl A32.out.own0 ⟨p0, off0, none⟩ n cap (cs.map (Value.int .i64)) rfl (by rw [List.length_map, HN.out, Nat.mul_one]) (CSN.out _ A32.out.bel) (by intro u hu; obtain ⟨z, _, rfl⟩ := List.mem_map.1 hu; rfl) (by omega) (by unfold maxLen; omega) (by omega) (Nat.zero_le _) _ rfl ?_
        intro g33 c33 w33 h4 hg4 hn4 _
        rw [Nat.zero_add, List.nil_append] at h4
        have A33 := hide (A32.out.app h4 hg4 hn4)
        clear h4 hg4 hn4
        refine hK.out _ _ ?_ (fun hHeld => ?_)
        · trivial
        clear hK K
        try simp only [Act.put, List.setIfInBounds_toArray, List.set_cons_zero, List.set_cons_succ]
        rw [Nat.zero_add]
        refine wpAnyH_take (i := 7) (v := ?v19) rfl (by kernel_rfl) (by kernel_rfl) (by kernel_rfl) (fun _ _ _ h => h) (Or.inl ⟨by rfl, ?y19⟩) (by assumption) ?r19
        case y19 => (intro w hSw; (try dsimp only at hSw); go_simp; try (with_reducible rfl))
        simp only [List.getElem_toArray, List.getElem_cons_succ, List.getElem_cons_zero, Act.put, List.setIfInBounds_toArray, List.set_cons_zero, List.set_cons_succ]
        refine wpAnyH_ready (rs := [9]) (by kernel_rfl) (by simp) ?_
        refine AllReadyH.cons rfl (fun K hK => ?_) AllReadyH.nil
        simp only [List.getElem_toArray, List.getElem_cons_succ, List.getElem_cons_zero]
        have bb := (A33.out.b q31 rfl).1
        obtain ⟨b0, b1, b2, b3, b4⟩ := blk5 bb
        have bf : ∀ i, w33.frozen? ⟨q31, i, none⟩ = false := fun i => frzO bb i
        have F := hide (A33.out.fin HN.out hNN.out)
        rw [← HN2.out] at F
        clear bb
        go_simp
        refine hK.out _ _ ?_ (fun hHeld => ?_)
        · trivial
        clear hK K
        try simp only [Act.put, List.setIfInBounds_toArray, List.set_cons_zero, List.set_cons_succ]
        refine wpAnyH_done (by kernel_rfl) ?_ _
        clear hHeld
        go_wp2_with fail
        go_meet
        exact ⟨_, _, rfl, F.out⟩
    · simp only [List.getElem_toArray, List.getElem_cons_succ, List.getElem_cons_zero]
      go_simp
      refine hK.out _ _ ?_ (fun hHeld => ?_)
      · trivial
      clear hK K
      try simp only [Act.put, List.setIfInBounds_toArray, List.set_cons_zero, List.set_cons_succ]
      have A35 := hide (A0.out.newB _ rfl)
      obtain ⟨q35, hq35⟩ : ∃ q, u0.heap.size = q := ⟨_, rfl⟩
      obtain ⟨u35, hu35⟩ : ∃ u, u0.alloc zB = u := ⟨_, rfl⟩
      rw [hu35] at A35 ⊢
      rw [hq35] at A35 ⊢
      clear hu35 hq35
      refine wpAnyH_ready (rs := [0, 6]) (by kernel_rfl) (by simp) ?_
      refine AllReadyH.cons rfl (fun K hK => ?_) (AllReadyH.cons rfl (fun K hK => ?_) AllReadyH.nil)
      · simp only [List.getElem_toArray, List.getElem_cons_zero]
        go_simp
        refine hK.out _ _ ?_ (fun hHeld => ?_)
        · trivial
        clear hK K
        try simp only [Act.put, List.setIfInBounds_toArray, List.set_cons_zero, List.set_cons_succ]
        have A36 := hide (A35.out.newE _ rfl)
        obtain ⟨q36, hq36⟩ : ∃ q, u35.heap.size = q := ⟨_, rfl⟩
        obtain ⟨u36, hu36⟩ : ∃ u, u35.alloc (.cells #[] 3 (0, 0)) = u := ⟨_, rfl⟩
        rw [hu36] at A36 ⊢
        rw [hq36] at A36 ⊢
        clear hu36 hq36
        refine wpAnyH_ready (rs := [2, 6]) (by kernel_rfl) (by simp) ?_
        refine AllReadyH.cons rfl (fun K hK => ?_) (AllReadyH.cons rfl (fun K hK => ?_) AllReadyH.nil)
        · simp only [List.getElem_toArray, List.getElem_cons_succ, List.getElem_cons_zero]
          rw [if_pos (by rfl)]
          refine wp_append_lies _ (.tmp 18) (.tmp 19) 24 rfl 0 3 i0 (.int .i64 0) 1 8 Try.underlying24 hi hz0 hz1 hz2 rfl (by decide) (.slice (some ⟨q36, 0, none⟩) 0 0) 0 [] rfl A36.out.own0 ⟨p0, off0, none⟩ n cap (cs.map (Value.int .i64)) rfl (by rw [List.length_map, HN.out, Nat.mul_one]) (CSN.out _ A36.out.bel) (by intro u hu; obtain ⟨z, _, rfl⟩ := List.mem_map.1 hu; rfl) (by omega) (by unfold maxLen; omega) (by omega) (Nat.zero_le _) _ rfl ?_
          intro g37 c37 w37 h4 hg4 hn4 _
          rw [Nat.zero_add, List.nil_append] at h4
          have A37 := hide (A36.out.app h4 hg4 hn4)
          clear h4 hg4 hn4
          refine hK.out _ _ ?_ (fun hHeld => ?_)
          · trivial
          clear hK K
          try simp only [Act.put, List.setIfInBounds_toArray, List.set_cons_zero, List.set_cons_succ]
          rw [Nat.zero_add]
          refine wpAnyH_ready (rs := [6]) (by kernel_rfl) (by simp) ?_
          refine AllReadyH.cons rfl (fun K hK => ?_) AllReadyH.nil
          simp only [List.getElem_toArray, List.getElem_cons_succ, List.getElem_cons_zero]
          go_simp
          refine hK.out _ _ ?_ (fun hHeld => ?_)
          · trivial
          clear hK K
          try simp only [Act.put, List.setIfInBounds_toArray, List.set_cons_zero, List.set_cons_succ]
          have A38 := hide (A37.out.newG OA HOA.out)
          obtain ⟨q38, hq38⟩ : ∃ q, w37.heap.size = q := ⟨_, rfl⟩
          obtain ⟨u38, hu38⟩ : ∃ u, w37.alloc OA = u := ⟨_, rfl⟩
          rw [hu38] at A38 ⊢
          rw [hq38] at A38 ⊢
          clear hu38 hq38
          refine wpAnyH_take (i := 7) (v := ?v20) rfl (by kernel_rfl) (by kernel_rfl) (by kernel_rfl) (fun _ _ _ h => h) (Or.inl ⟨by rfl, ?y20⟩) (by assumption) ?r20
          case y20 => (intro w hSw; (try dsimp only at hSw); go_simp; try (with_reducible rfl))
          simp only [List.getElem_toArray, List.getElem_cons_succ, List.getElem_cons_zero, Act.put, List.setIfInBounds_toArray, List.set_cons_zero, List.set_cons_succ]
          refine wpAnyH_ready (rs := [9]) (by kernel_rfl) (by simp) ?_
          refine AllReadyH.cons rfl (fun K hK => ?_) AllReadyH.nil
          simp only [List.getElem_toArray, List.getElem_cons_succ, List.getElem_cons_zero]
          have bb := (A38.out.b q35 rfl).1
          obtain ⟨b0, b1, b2, b3, b4⟩ := blk5 bb
          have bf : ∀ i, u38.frozen? ⟨q35, i, none⟩ = false := fun i => frzO bb i
          have F := hide (A38.out.fin HN.out hNN.out)
          rw [← HN2.out] at F
          clear bb
          go_simp
          refine hK.out _ _ ?_ (fun hHeld => ?_)
          · trivial
          clear hK K
          try simp only [Act.put, List.setIfInBounds_toArray, List.set_cons_zero, List.set_cons_succ]
          refine wpAnyH_done (by kernel_rfl) ?_ _
          clear hHeld
          go_wp2_with fail
          go_meet
          exact ⟨_, _, rfl, F.out⟩
        · simp only [List.getElem_toArray, List.getElem_cons_succ, List.getElem_cons_zero]
          go_simp
          refine hK.out _ _ ?_ (fun hHeld => ?_)
          · trivial
          clear hK K
          try simp only [Act.put, List.setIfInBounds_toArray, List.set_cons_zero, List.set_cons_succ]
          have A40 := hide (A36.out.newG OA HOA.out)
          obtain ⟨q40, hq40⟩ : ∃ q, u36.heap.size = q := ⟨_, rfl⟩
          obtain ⟨u40, hu40⟩ : ∃ u, u36.alloc OA = u := ⟨_, rfl⟩
          rw [hu40] at A40 ⊢
          rw [hq40] at A40 ⊢
          clear hu40 hq40
          refine wpAnyH_ready (rs := [2]) (by kernel_rfl) (by simp) ?_
          refine AllReadyH.cons rfl (fun K hK => ?_) AllReadyH.nil
          simp only [List.getElem_toArray, List.getElem_cons_succ, List.getElem_cons_zero]
          rw [if_pos (by rfl)]
          refine wp_append_lies _ (.tmp 18) (.tmp 19) 24 rfl 0 3 i0 (.int .i64 0) 1 8 Try.underlying24 hi hz0 hz1 hz2 rfl (by decide) (.slice (some ⟨q36, 0, none⟩) 0 0) 0 [] rfl A40.out.own0 ⟨p0, off0, none⟩ n cap (cs.map (Value.int .i64)) rfl (by rw [List.length_map, HN.out, Nat.mul_one]) (CSN.out _ A40.out.bel) (by intro u hu; obtain ⟨z, _, rfl⟩ := List.mem_map.1 hu; rfl) (by omega) (by unfold maxLen; omega) (by omega) (Nat.zero_le _) _ rfl ?_
          intro g41 c41 w41 h4 hg4 hn4 _
          rw [Nat.zero_add, List.nil_append] at h4
          have A41 := hide (A40.out.app h4 hg4 hn4)
          clear h4 hg4 hn4
          refine hK.out _ _ ?_ (fun hHeld => ?_)
          · trivial
          clear hK K
          try simp only [Act.put, List.setIfInBounds_toArray, List.set_cons_zero, List.set_cons_succ]
          rw [Nat.zero_add]
          refine wpAnyH_take (i := 7) (v := ?v21) rfl (by kernel_rfl) (by kernel_rfl) (by kernel_rfl) (fun _ _ _ h => h) (Or.inl ⟨by rfl, ?y21⟩) (by assumption) ?r21
          case y21 => (intro w hSw; (try dsimp only at hSw); go_simp; try (with_reducible rfl))
          simp only [List.getElem_toArray, List.getElem_cons_succ, List.getElem_cons_zero, Act.put, List.setIfInBounds_toArray, List.set_cons_zero, List.set_cons_succ]
          refine wpAnyH_ready (rs := [9]) (by kernel_rfl) (by simp) ?_
          refine AllReadyH.cons rfl (fun K hK => ?_) AllReadyH.nil
          simp only [List.getElem_toArray, List.getElem_cons_succ, List.getElem_cons_zero]
          have bb := (A41.out.b q35 rfl).1
          obtain ⟨b0, b1, b2, b3, b4⟩ := blk5 bb
          have bf : ∀ i, w41.frozen? ⟨q35, i, none⟩ = false := fun i => frzO bb i
          have F := hide (A41.out.fin HN.out hNN.out)
          rw [← HN2.out] at F
          clear bb
          go_simp
          refine hK.out _ _ ?_ (fun hHeld => ?_)
          · trivial
          clear hK K
          try simp only [Act.put, List.setIfInBounds_toArray, List.set_cons_zero, List.set_cons_succ]
          refine wpAnyH_done (by kernel_rfl) ?_ _
          clear hHeld
          go_wp2_with fail
          go_meet
          exact ⟨_, _, rfl, F.out⟩
      · simp only [List.getElem_toArray, List.getElem_cons_succ, List.getElem_cons_zero]
        go_simp
        refine hK.out _ _ ?_ (fun hHeld => ?_)
        · trivial
        clear hK K
        try simp only [Act.put, List.setIfInBounds_toArray, List.set_cons_zero, List.set_cons_succ]
        have A43 := hide (A35.out.newG OA HOA.out)
        obtain ⟨q43, hq43⟩ : ∃ q, u35.heap.size = q := ⟨_, rfl⟩
        obtain ⟨u43, hu43⟩ : ∃ u, u35.alloc OA = u := ⟨_, rfl⟩
        rw [hu43] at A43 ⊢
        rw [hq43] at A43 ⊢
        clear hu43 hq43
        refine wpAnyH_ready (rs := [0]) (by kernel_rfl) (by simp) ?_
        refine AllReadyH.cons rfl (fun K hK => ?_) AllReadyH.nil
        simp only [List.getElem_toArray, List.getElem_cons_zero]
        go_simp
        refine hK.out _ _ ?_ (fun hHeld => ?_)
        · trivial
        clear hK K
        try simp only [Act.put, List.setIfInBounds_toArray, List.set_cons_zero, List.set_cons_succ]
        have A44 := hide (A43.out.newE _ rfl)
        obtain ⟨q44, hq44⟩ : ∃ q, u43.heap.size = q := ⟨_, rfl⟩
        obtain ⟨u44, hu44⟩ : ∃ u, u43.alloc (.cells #[] 3 (0, 0)) = u := ⟨_, rfl⟩
        rw [hu44] at A44 ⊢
        rw [hq44] at A44 ⊢
        clear hu44 hq44
        refine wpAnyH_ready (rs := [2]) (by kernel_rfl) (by simp) ?_
        refine AllReadyH.cons rfl (fun K hK => ?_) AllReadyH.nil
        simp only [List.getElem_toArray, List.getElem_cons_succ, List.getElem_cons_zero]
        rw [if_pos (by rfl)]
        refine wp_append_lies _ (.tmp 18) (.tmp 19) 24 rfl 0 3 i0 (.int .i64 0) 1 8 Try.underlying24 hi hz0 hz1 hz2 rfl (by decide) (.slice (some ⟨q44, 0, none⟩) 0 0) 0 [] rfl A44.out.own0 ⟨p0, off0, none⟩ n cap (cs.map (Value.int .i64)) rfl (by rw [List.length_map, HN.out, Nat.mul_one]) (CSN.out _ A44.out.bel) (by intro u hu; obtain ⟨z, _, rfl⟩ := List.mem_map.1 hu; rfl) (by omega) (by unfold maxLen; omega) (by omega) (Nat.zero_le _) _ rfl ?_
        intro g45 c45 w45 h4 hg4 hn4 _
        rw [Nat.zero_add, List.nil_append] at h4
        have A45 := hide (A44.out.app h4 hg4 hn4)
        clear h4 hg4 hn4
        refine hK.out _ _ ?_ (fun hHeld => ?_)
        · trivial
        clear hK K
        try simp only [Act.put, List.setIfInBounds_toArray, List.set_cons_zero, List.set_cons_succ]
        rw [Nat.zero_add]
        refine wpAnyH_take (i := 7) (v := ?v22) rfl (by kernel_rfl) (by kernel_rfl) (by kernel_rfl) (fun _ _ _ h => h) (Or.inl ⟨by rfl, ?y22⟩) (by assumption) ?r22
        case y22 => (intro w hSw; (try dsimp only at hSw); go_simp; try (with_reducible rfl))
        simp only [List.getElem_toArray, List.getElem_cons_succ, List.getElem_cons_zero, Act.put, List.setIfInBounds_toArray, List.set_cons_zero, List.set_cons_succ]
        refine wpAnyH_ready (rs := [9]) (by kernel_rfl) (by simp) ?_
        refine AllReadyH.cons rfl (fun K hK => ?_) AllReadyH.nil
        simp only [List.getElem_toArray, List.getElem_cons_succ, List.getElem_cons_zero]
        have bb := (A45.out.b q35 rfl).1
        obtain ⟨b0, b1, b2, b3, b4⟩ := blk5 bb
        have bf : ∀ i, w45.frozen? ⟨q35, i, none⟩ = false := fun i => frzO bb i
        have F := hide (A45.out.fin HN.out hNN.out)
        rw [← HN2.out] at F
        clear bb
        go_simp
        refine hK.out _ _ ?_ (fun hHeld => ?_)
        · trivial
        clear hK K
        try simp only [Act.put, List.setIfInBounds_toArray, List.set_cons_zero, List.set_cons_succ]
        refine wpAnyH_done (by kernel_rfl) ?_ _
        clear hHeld
        go_wp2_with fail
        go_meet
        exact ⟨_, _, rfl, F.out⟩
  case rest =>
  obtain ⟨bx, v0, rfl, hnb⟩ := hcut
  obtain ⟨V, hV⟩ : ∃ V : World, V = wc := ⟨_, rfl⟩
  rw [← hV] at hnb ⊢
  have H0 := hide hnb
  clear hnb hV mk1 A0 HU0
  go_wp2
  go_loopw [6] (fun t wr => ∃ (k : Nat) (v : Vs), k ≤ n ∧ t = .int .i64 k ∧ Hid (NB w bx v (sbk cs n k) wr)) (fun t _ => n - (intOf t).toNat)
  case atStart => exact ⟨0, v0, Nat.zero_le _, rfl, H0⟩
  case round =>
    obtain ⟨k, v, hk, rfl, HNB⟩ := hrel
    by_cases hlt : k < n
    rotate_left
    · obtain rfl : k = n := by omega
      have hltI : ¬ (k : Int) < (k : Int) := by omega
      obtain ⟨y0, y1, y2, y3, y4⟩ := blk5 HNB.out.box
      obtain ⟨z0, z1, z2, z3, z4⟩ := blk5 HNB.out.res
      have zf : ∀ i, wr.frozen? ⟨w.heap.size, i, none⟩ = false := fun i => frzO HNB.out.res i
      obtain ⟨aC, cC, aW, cW, aK, cK, aH, cH, aF, cF, f⟩ := HNB.out.bw.shape
      have HO := hide (HNB.out.out v.c v.W v.k v.H v.F)
      rw [f.c] at y0
      rw [f.W] at y1
      rw [f.k] at y2
      rw [f.H] at y3
      rw [f.F] at y4
      rw [f.c, f.W, f.k, f.H, f.F] at HO
      obtain ⟨l1, e1⟩ : ∃ l, (sbk cs k k).c.length = l := ⟨_, rfl⟩
      obtain ⟨l2, e2⟩ : ∃ l, (sbk cs k k).W.length = l := ⟨_, rfl⟩
      obtain ⟨l3, e3⟩ : ∃ l, (sbk cs k k).k.length = l := ⟨_, rfl⟩
      obtain ⟨l4, e4⟩ : ∃ l, (sbk cs k k).H.length = l := ⟨_, rfl⟩
      obtain ⟨l5, e5⟩ : ∃ l, (sbk cs k k).F.length = l := ⟨_, rfl⟩
      rw [e1] at y0 HO
      rw [e2] at y1 HO
      rw [e3] at y2 HO
      rw [e4] at y3 HO
      rw [e5] at y4 HO
      clear e1 e2 e3 e4 e5 f
      go_wp2
      obtain ⟨rfl, rfl⟩ := HE.out
      exact bodyPost_ret (v := .tuple #[.agg #[.slice aC l1 cC, .slice aW l2 cW, .slice aK l3 cK, .slice aH l4 cH, .slice aF l5 cF], .bool true]) (by simp [results, Try.f21, go_sem, z0, z1, z2, z3, z4]) rfl HO.out
    have hltI : (k : Int) < (n : Int) := by omega
    have k0' : (0 : Int) ≤ (k : Int) := by omega
    obtain ⟨m1, hm1⟩ : ∃ m1 : Bk, m1 = sbk cs n k := ⟨_, rfl⟩
    obtain ⟨v1, hv1⟩ : ∃ v1 : Vs, v1 = v := ⟨_, rfl⟩
    obtain ⟨wa, hwa⟩ : ∃ wa : World, wa = wr := ⟨_, rfl⟩
    rw [← hm1, ← hv1, ← hwa] at HNB
    rw [← hwa]
    have N1 := HNB
    have HM1 := hide hm1
    clear HNB hm1 hv1 hwa
    obtain ⟨y0, y1, y2, y3, y4⟩ := blk5 N1.out.box
    have lk : m1.k.length = k := by rw [HM1.out]; show (List.replicate k (-1 : Int)).length = k; simp
    have O2 : Hid ((wa.alloc (.cells #[.int .i64 (-1)] 3)).ownsRow 0 3 1 v1.k k (m1.k.map (Value.int .i64))) := hide (by
      have h := own_belO (N1.out.bw.r .k) ((Below.refl wa.heap.size wa).alloc (Nat.le_refl _) (.cells #[.int .i64 (-1)] 3))
      have h' : (wa.alloc (.cells #[.int .i64 (-1)] 3)).ownsRow 0 3 1 v1.k m1.k.length (m1.k.map (Value.int .i64)) := h
      rw [lk] at h'
      exact h')
    have LK := hide lk
    clear lk
    go_wp2_with (first
      | (at_builtin; refine wpList_append_lies _ rfl _ _ 24 rfl 0 3 i0 (.int .i64 0) 1 8 Try.underlying24 hi hz0 hz1 hz2 rfl (by decide) v1.k k _ rfl O2.out ⟨wa.heap.size, 0, none⟩ 1 1 [.int .i64 (-1)] rfl rfl (cell_oneN _ _ _) (by intro u hu; simp at hu; subst hu; rfl) (by decide) (by unfold maxLen; omega) (by omega) (Nat.zero_le _) _ rfl ?_)
      | go_in)
    intro g7 c7 w7 hown7 hg7 hn7 _
    obtain ⟨⟨x0, xf⟩, hst⟩ := N1.out.fldk (.cells #[.int .i64 (-1)] 3) (-1) (by rw [LK.out]; exact hown7) hg7 (by rw [World.size_alloc]; exact hn7)
    rw [LK.out] at hst
    obtain ⟨v2, hv2⟩ : ∃ v2 : Vs, v2 = v1.put (.slice (some ⟨g7, 0, none⟩) (k + 1) c7) .k := ⟨_, rfl⟩
    obtain ⟨m2, hm2⟩ : ∃ m2 : Bk, m2 = m1.put (m1.k ++ [-1]) .k := ⟨_, rfl⟩
    rw [← hv2, ← hm2] at hst
    have N2' := hide hst
    have HM2 := hide hm2
    clear hown7 hg7 hn7 hst O2 hm2 y0 y1 y2 y3 y4
    go_upto_region 9 with fail
    obtain ⟨wz, hwz⟩ : ∃ wz, w7.setCell ⟨bx, 2, none⟩ (.slice (some ⟨g7, 0, none⟩) (k + 1) c7) = wz := ⟨_, rfl⟩
    obtain ⟨vz, hvz⟩ : ∃ vz : Vs, vz = v2 := ⟨_, rfl⟩
    rw [hwz, ← hvz] at N2'
    rw [hwz]
    clear hwz x0 xf hv2 hvz
    have HMS : Hid (m2 = ⟨cs, List.replicate (n * n) [], List.replicate k (-1) ++ [-1], List.replicate k (List.replicate n false), List.replicate k (List.replicate n 0)⟩) := hide (by rw [HM2.out, HM1.out]; rfl)
    obtain ⟨y0, y1, y2, y3, y4⟩ := blk5 N2'.out.box
    have lH : m2.H.length = k := by rw [HMS.out]; simp
    have LH := hide lH
    clear lH
    have lA : (wz.alloc OB).cell? ⟨bx, 3, none⟩ = some vz.H := Go.Lib.cell?_alloc_some _ y3
    have lB : ((wz.alloc OB).alloc (.cells #[.slice (some ⟨wz.heap.size, 0, none⟩) n n] 58)).cell? ⟨bx, 3, none⟩ = some vz.H := Go.Lib.cell?_alloc_some _ lA
    have OJ : Hid (((wz.alloc OB).alloc (.cells #[.slice (some ⟨wz.heap.size, 0, none⟩) n n] 58)).drew.ownsRow 0 58 1 vz.H k vz.VH) := hide (by
      have h := own_belO N2'.out.bw.H (((Below.refl wz.heap.size wz).alloc (Nat.le_refl _) OB).alloc (by simp) (.cells #[.slice (some ⟨wz.heap.size, 0, none⟩) n n] 58)).drew
      rw [LH.out] at h
      exact h)
    have CX : ∀ j u, [Value.slice (some ⟨wz.heap.size, 0, none⟩) n n][j]? = some u → ((wz.alloc OB).alloc (.cells #[.slice (some ⟨wz.heap.size, 0, none⟩) n n] 58)).drew.cell? ((⟨wz.heap.size + 1, 0, none⟩ : Addr).add j) = some u := fun j u hu => by
        have h := cell_oneN (wz.alloc OB) (.slice (some ⟨wz.heap.size, 0, none⟩) n n) 58 j u hu
        rw [World.size_alloc] at h
        exact h
    have PP : Hid (∀ g4 c4 w4, w4.ownsRow 0 58 1 (.slice (some ⟨g4, 0, none⟩) (k + 1) c4) (k + 1) (vz.VH ++ [.slice (some ⟨wz.heap.size, 0, none⟩) n n]) → ((wz.alloc OB).alloc (.cells #[.slice (some ⟨wz.heap.size, 0, none⟩) n n] 58)).drew.grownBy w4 vz.H.ownBlock → (vz.H.ownBlock = some g4 ∨ g4 = wz.heap.size + 2) →
        (w4.cell? ⟨bx, 3, none⟩ = some vz.H ∧ ∀ i, w4.frozen? ⟨bx, i, none⟩ = false) ∧ NB w bx { vz with H := .slice (some ⟨g4, 0, none⟩) (k + 1) c4, VH := vz.VH ++ [.slice (some ⟨wz.heap.size, 0, none⟩) n n] } { m2 with H := m2.H ++ [List.replicate n false] } (w4.setCell ⟨bx, 3, none⟩ (.slice (some ⟨g4, 0, none⟩) (k + 1) c4))) := hide (fun g4 c4 w4 h4 hg4 hn4 => by
      have hA := (((Below.refl wz.heap.size wz).alloc (Nat.le_refl _) OB).alloc (by simp) (.cells #[.slice (some ⟨wz.heap.size, 0, none⟩) n n] 58)).drew
      have hb0 : ((wz.alloc OB).alloc (.cells #[.slice (some ⟨wz.heap.size, 0, none⟩) n n] 58)).drew.heap[wz.heap.size]? = some (oBo n) := by
        have h1 := blk_newO wz OB
        rw [HOB.out] at h1
        exact ((((Below.refl (wz.alloc OB).heap.size _).alloc (Nat.le_refl _) _).drew.block wz.heap.size (by simp)).trans (by rw [HOB.out]; exact h1))
      have hrow : ((wz.alloc OB).alloc (.cells #[.slice (some ⟨wz.heap.size, 0, none⟩) n n] 58)).drew.ownsRow wz.heap.size 4 1 (.slice (some ⟨wz.heap.size, 0, none⟩) n n) (List.replicate n false).length ((List.replicate n false).map Value.bool) := by
        rw [List.length_replicate, List.map_replicate]
        exact own_made12 (z := .bool false) rfl hb0 (Nat.le_refl _) (by unfold maxLen; omega)
      have := N2'.out.addH hA _ (List.replicate n false) hrow (g := g4) (c := c4) (by rw [LH.out]; exact h4) hg4 (by simpa using hn4)
      rw [LH.out] at this
      exact this)
    go_cut [4] from 36 to 42 (fun t wx => t = .int .i64 n ∧ ∃ vn, NB w bx vn { m2 with H := m2.H ++ [List.replicate n false] } wx)
    case first =>
      refine wp_region_held_drew (S := fun _ => True) (by kernel_rfl) trivial (fun hHeld => ?_)
      refine wpAnyH_take (i := 0) (v := ?v1) rfl (by kernel_rfl) (by kernel_rfl) (by kernel_rfl) (fun _ _ _ h => h) (Or.inl ⟨by rfl, ?y1⟩) (by assumption) ?r1
      case y1 => (intro w hSw; (try dsimp only at hSw); go_simp; try (with_reducible rfl))
      simp only [List.getElem_toArray, List.getElem_cons_zero, Act.put, List.setIfInBounds_toArray, List.set_cons_zero, List.set_cons_succ]
      refine wpAnyH_take (i := 2) (v := ?v2) rfl (by kernel_rfl) (by kernel_rfl) (by kernel_rfl) (fun _ _ _ h => h) (Or.inl ⟨by rfl, ?y2⟩) (by assumption) ?r2
      case y2 => (intro w hSw; (try dsimp only at hSw); go_simp; try (with_reducible rfl))
      simp only [List.getElem_toArray, List.getElem_cons_succ, List.getElem_cons_zero, Act.put, List.setIfInBounds_toArray, List.set_cons_zero, List.set_cons_succ]
      refine wpAnyH_ready (rs := [1, 3]) (by kernel_rfl) (by simp) ?_
      refine AllReadyH.cons rfl (fun K hK => ?_) (AllReadyH.cons rfl (fun K hK => ?_) AllReadyH.nil)
      · simp only [List.getElem_toArray, List.getElem_cons_succ, List.getElem_cons_zero]
        go_simp
        refine hK.out _ _ ?_ (fun hHeld => ?_)
        · trivial
        clear hK K
        try simp only [Act.put, List.setIfInBounds_toArray, List.set_cons_zero, List.set_cons_succ]
        refine wpAnyH_ready (rs := [3]) (by kernel_rfl) (by simp) ?_
        refine AllReadyH.cons rfl (fun K hK => ?_) AllReadyH.nil
        simp only [List.getElem_toArray, List.getElem_cons_succ, List.getElem_cons_zero]
        go_simp
        refine hK.out _ _ ?_ (fun hHeld => ?_)
        · trivial
        clear hK K
        try simp only [Act.put, List.setIfInBounds_toArray, List.set_cons_zero, List.set_cons_succ]
        refine wpAnyH_ready (rs := [4]) (by kernel_rfl) (by simp) ?_
        refine AllReadyH.cons rfl (fun K hK => ?_) AllReadyH.nil
        simp only [List.getElem_toArray, List.getElem_cons_succ, List.getElem_cons_zero]
        go_simp
        refine hK.out _ _ ?_ (fun hHeld => ?_)
        · trivial
        clear hK K
        try simp only [Act.put, List.setIfInBounds_toArray, List.set_cons_zero, List.set_cons_succ]
        refine wpAnyH_ready (rs := [5]) (by kernel_rfl) (by simp) ?_
        refine AllReadyH.cons rfl (fun K hK => ?_) AllReadyH.nil
        simp only [List.getElem_toArray, List.getElem_cons_succ, List.getElem_cons_zero]
        rw [if_pos (by rfl)]
        refine wp_append_lies _ (.tmp 37) (.tmp 40) 37 rfl 0 58 jbool (.slice none 0 0) 1 24 Try.underlying37 hjbool hybool0 hybool1 hybool2 rfl (by decide) vz.H _ vz.VH rfl OJ.out ⟨wz.heap.size + 1, 0, none⟩ 1 1 [.slice (some ⟨wz.heap.size, 0, none⟩) n n] rfl rfl CX (by intro u hu; simp at hu; subst hu; rfl) (by decide) (by unfold maxLen; omega) (by omega) (Nat.zero_le _) (wz.heap.size + 2) (by simp) ?_
        intro g4 c4 w4 h4 hg4 hn4 _
        obtain ⟨⟨xc, xf⟩, pp⟩ := PP.out g4 c4 w4 h4 hg4 hn4
        have HPP := hide pp
        clear pp h4 hg4 hn4
        refine hK.out _ _ ?_ (fun hHeld => ?_)
        · trivial
        clear hK K
        try simp only [Act.put, List.setIfInBounds_toArray, List.set_cons_zero, List.set_cons_succ]
        refine wpAnyH_take (i := 6) (v := ?v3) rfl (by kernel_rfl) (by kernel_rfl) (by kernel_rfl) (fun _ _ _ h => h) (Or.inl ⟨by rfl, ?y3⟩) (by assumption) ?r3
        case y3 => (intro w hSw; (try dsimp only at hSw); go_simp; try (with_reducible rfl))
        simp only [List.getElem_toArray, List.getElem_cons_succ, List.getElem_cons_zero, Act.put, List.setIfInBounds_toArray, List.set_cons_zero, List.set_cons_succ]
        refine wpAnyH_ready (rs := [7]) (by kernel_rfl) (by simp) ?_
        refine AllReadyH.cons rfl (fun K hK => ?_) AllReadyH.nil
        simp only [List.getElem_toArray, List.getElem_cons_succ, List.getElem_cons_zero]
        go_simp
        refine hK.out _ _ ?_ (fun hHeld => ?_)
        · trivial
        clear hK K
        try simp only [Act.put, List.setIfInBounds_toArray, List.set_cons_zero, List.set_cons_succ]
        refine wpAnyH_done (by kernel_rfl) ?_ _
        clear hHeld
        go_wp2_with fail
        go_meet
        exact ⟨rfl, _, HPP.out⟩
      · simp only [List.getElem_toArray, List.getElem_cons_succ, List.getElem_cons_zero]
        go_simp
        refine hK.out _ _ ?_ (fun hHeld => ?_)
        · trivial
        clear hK K
        try simp only [Act.put, List.setIfInBounds_toArray, List.set_cons_zero, List.set_cons_succ]
        refine wpAnyH_ready (rs := [1, 4]) (by kernel_rfl) (by simp) ?_
        refine AllReadyH.cons rfl (fun K hK => ?_) (AllReadyH.cons rfl (fun K hK => ?_) AllReadyH.nil)
        · simp only [List.getElem_toArray, List.getElem_cons_succ, List.getElem_cons_zero]
          go_simp
          refine hK.out _ _ ?_ (fun hHeld => ?_)
          · trivial
          clear hK K
          try simp only [Act.put, List.setIfInBounds_toArray, List.set_cons_zero, List.set_cons_succ]
          refine wpAnyH_ready (rs := [4]) (by kernel_rfl) (by simp) ?_
          refine AllReadyH.cons rfl (fun K hK => ?_) AllReadyH.nil
          simp only [List.getElem_toArray, List.getElem_cons_succ, List.getElem_cons_zero]
          go_simp
          refine hK.out _ _ ?_ (fun hHeld => ?_)
          · trivial
          clear hK K
          try simp only [Act.put, List.setIfInBounds_toArray, List.set_cons_zero, List.set_cons_succ]
          refine wpAnyH_ready (rs := [5]) (by kernel_rfl) (by simp) ?_
          refine AllReadyH.cons rfl (fun K hK => ?_) AllReadyH.nil
          simp only [List.getElem_toArray, List.getElem_cons_succ, List.getElem_cons_zero]
          rw [if_pos (by rfl)]
          refine wp_append_lies _ (.tmp 37) (.tmp 40) 37 rfl 0 58 jbool (.slice none 0 0) 1 24 Try.underlying37 hjbool hybool0 hybool1 hybool2 rfl (by decide) vz.H _ vz.VH rfl OJ.out ⟨wz.heap.size + 1, 0, none⟩ 1 1 [.slice (some ⟨wz.heap.size, 0, none⟩) n n] rfl rfl CX (by intro u hu; simp at hu; subst hu; rfl) (by decide) (by unfold maxLen; omega) (by omega) (Nat.zero_le _) (wz.heap.size + 2) (by simp) ?_
          intro g4 c4 w4 h4 hg4 hn4 _
          obtain ⟨⟨xc, xf⟩, pp⟩ := PP.out g4 c4 w4 h4 hg4 hn4
          have HPP := hide pp
          clear pp h4 hg4 hn4
          refine hK.out _ _ ?_ (fun hHeld => ?_)
          · trivial
          clear hK K
          try simp only [Act.put, List.setIfInBounds_toArray, List.set_cons_zero, List.set_cons_succ]
          refine wpAnyH_take (i := 6) (v := ?v4) rfl (by kernel_rfl) (by kernel_rfl) (by kernel_rfl) (fun _ _ _ h => h) (Or.inl ⟨by rfl, ?y4⟩) (by assumption) ?r4
          case y4 => (intro w hSw; (try dsimp only at hSw); go_simp; try (with_reducible rfl))
          simp only [List.getElem_toArray, List.getElem_cons_succ, List.getElem_cons_zero, Act.put, List.setIfInBounds_toArray, List.set_cons_zero, List.set_cons_succ]
          refine wpAnyH_ready (rs := [7]) (by kernel_rfl) (by simp) ?_
          refine AllReadyH.cons rfl (fun K hK => ?_) AllReadyH.nil
          simp only [List.getElem_toArray, List.getElem_cons_succ, List.getElem_cons_zero]
          go_simp
          refine hK.out _ _ ?_ (fun hHeld => ?_)
          · trivial
          clear hK K
          try simp only [Act.put, List.setIfInBounds_toArray, List.set_cons_zero, List.set_cons_succ]
          refine wpAnyH_done (by kernel_rfl) ?_ _
          clear hHeld
          go_wp2_with fail
          go_meet
          exact ⟨rfl, _, HPP.out⟩
        · simp only [List.getElem_toArray, List.getElem_cons_succ, List.getElem_cons_zero]
          go_simp
          refine hK.out _ _ ?_ (fun hHeld => ?_)
          · trivial
          clear hK K
          try simp only [Act.put, List.setIfInBounds_toArray, List.set_cons_zero, List.set_cons_succ]
          refine wpAnyH_ready (rs := [1]) (by kernel_rfl) (by simp) ?_
          refine AllReadyH.cons rfl (fun K hK => ?_) AllReadyH.nil
          simp only [List.getElem_toArray, List.getElem_cons_succ, List.getElem_cons_zero]
          go_simp
          refine hK.out _ _ ?_ (fun hHeld => ?_)
          · trivial
          clear hK K
          try simp only [Act.put, List.setIfInBounds_toArray, List.set_cons_zero, List.set_cons_succ]
          refine wpAnyH_ready (rs := [5]) (by kernel_rfl) (by simp) ?_
          refine AllReadyH.cons rfl (fun K hK => ?_) AllReadyH.nil
          simp only [List.getElem_toArray, List.getElem_cons_succ, List.getElem_cons_zero]
          rw [if_pos (by rfl)]
          refine wp_append_lies _ (.tmp 37) (.tmp 40) 37 rfl 0 58 jbool (.slice none 0 0) 1 24 Try.underlying37 hjbool hybool0 hybool1 hybool2 rfl (by decide) vz.H _ vz.VH rfl OJ.out ⟨wz.heap.size + 1, 0, none⟩ 1 1 [.slice (some ⟨wz.heap.size, 0, none⟩) n n] rfl rfl CX (by intro u hu; simp at hu; subst hu; rfl) (by decide) (by unfold maxLen; omega) (by omega) (Nat.zero_le _) (wz.heap.size + 2) (by simp) ?_
          intro g4 c4 w4 h4 hg4 hn4 _
          obtain ⟨⟨xc, xf⟩, pp⟩ := PP.out g4 c4 w4 h4 hg4 hn4
          have HPP := hide pp
          clear pp h4 hg4 hn4
          refine hK.out _ _ ?_ (fun hHeld => ?_)
          · trivial
          clear hK K
          try simp only [Act.put, List.setIfInBounds_toArray, List.set_cons_zero, List.set_cons_succ]
          refine wpAnyH_take (i := 6) (v := ?v5) rfl (by kernel_rfl) (by kernel_rfl) (by kernel_rfl) (fun _ _ _ h => h) (Or.inl ⟨by rfl, ?y5⟩) (by assumption) ?r5
          case y5 => (intro w hSw; (try dsimp only at hSw); go_simp; try (with_reducible rfl))
          simp only [List.getElem_toArray, List.getElem_cons_succ, List.getElem_cons_zero, Act.put, List.setIfInBounds_toArray, List.set_cons_zero, List.set_cons_succ]
          refine wpAnyH_ready (rs := [7]) (by kernel_rfl) (by simp) ?_
          refine AllReadyH.cons rfl (fun K hK => ?_) AllReadyH.nil
          simp only [List.getElem_toArray, List.getElem_cons_succ, List.getElem_cons_zero]
          go_simp
          refine hK.out _ _ ?_ (fun hHeld => ?_)
          · trivial
          clear hK K
          try simp only [Act.put, List.setIfInBounds_toArray, List.set_cons_zero, List.set_cons_succ]
          refine wpAnyH_done (by kernel_rfl) ?_ _
          clear hHeld
          go_wp2_with fail
          go_meet
          exact ⟨rfl, _, HPP.out⟩
    case rest =>
      obtain ⟨rfl, vq, hnq⟩ := hcut
      obtain ⟨m3, hm3⟩ : ∃ m3 : Bk, m3 = { m2 with H := m2.H ++ [List.replicate n false] } := ⟨_, rfl⟩
      rw [← hm3] at hnq
      obtain ⟨vz, hvz⟩ : ∃ vz : Vs, vz = vq := ⟨_, rfl⟩
      rw [← hvz] at hnq
      obtain ⟨wz, hwz⟩ : ∃ wz : World, wz = wc := ⟨_, rfl⟩
      rw [← hwz] at hnq ⊢
      have N3 := hide hnq
      have HM3 : Hid (m3 = ⟨cs, List.replicate (n * n) [], List.replicate k (-1) ++ [-1], List.replicate k (List.replicate n false) ++ [List.replicate n false], List.replicate k (List.replicate n 0)⟩) := hide (by rw [hm3, HMS.out])
      clear hnq hm3 hvz hwz N2' PP OJ lA lB CX y0 y1 y2 y3 y4
      obtain ⟨y0, y1, y2, y3, y4⟩ := blk5 N3.out.box
      have lF : m3.F.length = k := by rw [HM3.out]; simp
      have LF := hide lF
      clear lF
      go_upto_region 10 with fail
      have lA : (wz.alloc OI).cell? ⟨bx, 4, none⟩ = some vz.F := Go.Lib.cell?_alloc_some _ y4
      have lB : ((wz.alloc OI).alloc (.cells #[.slice (some ⟨wz.heap.size, 0, none⟩) n n] 24)).cell? ⟨bx, 4, none⟩ = some vz.F := Go.Lib.cell?_alloc_some _ lA
      have OJ : Hid (((wz.alloc OI).alloc (.cells #[.slice (some ⟨wz.heap.size, 0, none⟩) n n] 24)).drew.ownsRow 0 24 1 vz.F k vz.VF) := hide (by
        have h := own_belO N3.out.bw.F (((Below.refl wz.heap.size wz).alloc (Nat.le_refl _) OI).alloc (by simp) (.cells #[.slice (some ⟨wz.heap.size, 0, none⟩) n n] 24)).drew
        rw [LF.out] at h
        exact h)
      have CX : ∀ j u, [Value.slice (some ⟨wz.heap.size, 0, none⟩) n n][j]? = some u → ((wz.alloc OI).alloc (.cells #[.slice (some ⟨wz.heap.size, 0, none⟩) n n] 24)).drew.cell? ((⟨wz.heap.size + 1, 0, none⟩ : Addr).add j) = some u := fun j u hu => by
        have h := cell_oneN (wz.alloc OI) (.slice (some ⟨wz.heap.size, 0, none⟩) n n) 24 j u hu
        rw [World.size_alloc] at h
        exact h
      have PP : Hid (∀ g4 c4 w4, w4.ownsRow 0 24 1 (.slice (some ⟨g4, 0, none⟩) (k + 1) c4) (k + 1) (vz.VF ++ [.slice (some ⟨wz.heap.size, 0, none⟩) n n]) → ((wz.alloc OI).alloc (.cells #[.slice (some ⟨wz.heap.size, 0, none⟩) n n] 24)).drew.grownBy w4 vz.F.ownBlock → (vz.F.ownBlock = some g4 ∨ g4 = wz.heap.size + 2) →
          (w4.cell? ⟨bx, 4, none⟩ = some vz.F ∧ ∀ i, w4.frozen? ⟨bx, i, none⟩ = false) ∧ ∃ vn, NB w bx vn (sbk cs n (k + 1)) (w4.setCell ⟨bx, 4, none⟩ (.slice (some ⟨g4, 0, none⟩) (k + 1) c4))) := hide (fun g4 c4 w4 h4 hg4 hn4 => by
        have hA := (((Below.refl wz.heap.size wz).alloc (Nat.le_refl _) OI).alloc (by simp) (.cells #[.slice (some ⟨wz.heap.size, 0, none⟩) n n] 24)).drew
        have hb0 : ((wz.alloc OI).alloc (.cells #[.slice (some ⟨wz.heap.size, 0, none⟩) n n] 24)).drew.heap[wz.heap.size]? = some (oIn n) := by
          have h1 := blk_newO wz OI
          rw [HOI.out] at h1
          exact ((((Below.refl (wz.alloc OI).heap.size _).alloc (Nat.le_refl _) _).drew.block wz.heap.size (by simp)).trans (by rw [HOI.out]; exact h1))
        have hrow : ((wz.alloc OI).alloc (.cells #[.slice (some ⟨wz.heap.size, 0, none⟩) n n] 24)).drew.ownsRow wz.heap.size 3 1 (.slice (some ⟨wz.heap.size, 0, none⟩) n n) (List.replicate n (0 : Int)).length ((List.replicate n (0 : Int)).map (Value.int .i64)) := by
          rw [List.length_replicate, List.map_replicate]
          exact own_made12 (z := .int .i64 0) rfl hb0 (Nat.le_refl _) (by unfold maxLen; omega)
        have h := N3.out.addF hA _ (List.replicate n 0) hrow (g := g4) (c := c4) (by rw [LF.out]; exact h4) hg4 (by simpa using hn4)
        rw [LF.out] at h
        have em : ({ m3 with F := m3.F ++ [List.replicate n 0] } : Bk) = sbk cs n (k + 1) := by
          rw [← sbk_step cs n k, HM3.out]
        rw [em] at h
        exact ⟨h.1, _, h.2⟩)
      refine wp_region_held_drew (S := fun _ => True) (by kernel_rfl) trivial (fun hHeld => ?_)
      refine wpAnyH_take (i := 0) (v := ?v6) rfl (by kernel_rfl) (by kernel_rfl) (by kernel_rfl) (fun _ _ _ h => h) (Or.inl ⟨by rfl, ?y6⟩) (by assumption) ?r6
      case y6 => (intro w hSw; (try dsimp only at hSw); go_simp; try (with_reducible rfl))
      simp only [List.getElem_toArray, List.getElem_cons_zero, Act.put, List.setIfInBounds_toArray, List.set_cons_zero, List.set_cons_succ]
      refine wpAnyH_take (i := 2) (v := ?v7) rfl (by kernel_rfl) (by kernel_rfl) (by kernel_rfl) (fun _ _ _ h => h) (Or.inl ⟨by rfl, ?y7⟩) (by assumption) ?r7
      case y7 => (intro w hSw; (try dsimp only at hSw); go_simp; try (with_reducible rfl))
      simp only [List.getElem_toArray, List.getElem_cons_succ, List.getElem_cons_zero, Act.put, List.setIfInBounds_toArray, List.set_cons_zero, List.set_cons_succ]
      refine wpAnyH_ready (rs := [1, 3]) (by kernel_rfl) (by simp) ?_
      refine AllReadyH.cons rfl (fun K hK => ?_) (AllReadyH.cons rfl (fun K hK => ?_) AllReadyH.nil)
      · simp only [List.getElem_toArray, List.getElem_cons_succ, List.getElem_cons_zero]
        go_simp
        refine hK.out _ _ ?_ (fun hHeld => ?_)
        · trivial
        clear hK K
        try simp only [Act.put, List.setIfInBounds_toArray, List.set_cons_zero, List.set_cons_succ]
        refine wpAnyH_ready (rs := [3]) (by kernel_rfl) (by simp) ?_
        refine AllReadyH.cons rfl (fun K hK => ?_) AllReadyH.nil
        simp only [List.getElem_toArray, List.getElem_cons_succ, List.getElem_cons_zero]
        go_simp
        refine hK.out _ _ ?_ (fun hHeld => ?_)
        · trivial
        clear hK K
        try simp only [Act.put, List.setIfInBounds_toArray, List.set_cons_zero, List.set_cons_succ]
        refine wpAnyH_ready (rs := [4]) (by kernel_rfl) (by simp) ?_
        refine AllReadyH.cons rfl (fun K hK => ?_) AllReadyH.nil
        simp only [List.getElem_toArray, List.getElem_cons_succ, List.getElem_cons_zero]
        go_simp
        refine hK.out _ _ ?_ (fun hHeld => ?_)
        · trivial
        clear hK K
        try simp only [Act.put, List.setIfInBounds_toArray, List.set_cons_zero, List.set_cons_succ]
        refine wpAnyH_ready (rs := [5]) (by kernel_rfl) (by simp) ?_
        refine AllReadyH.cons rfl (fun K hK => ?_) AllReadyH.nil
        simp only [List.getElem_toArray, List.getElem_cons_succ, List.getElem_cons_zero]
        rw [if_pos (by rfl)]
        refine wp_append_lies _ (.tmp 44) (.tmp 47) 36 rfl 0 24 jint (.slice none 0 0) 1 24 Try.underlying36 hjint hyint0 hyint1 hyint2 rfl (by decide) vz.F _ vz.VF rfl OJ.out ⟨wz.heap.size + 1, 0, none⟩ 1 1 [.slice (some ⟨wz.heap.size, 0, none⟩) n n] rfl rfl CX (by intro u hu; simp at hu; subst hu; rfl) (by decide) (by unfold maxLen; omega) (by omega) (Nat.zero_le _) (wz.heap.size + 2) (by simp) ?_
        intro g4 c4 w4 h4 hg4 hn4 _
        obtain ⟨⟨xc, xf⟩, pp⟩ := PP.out g4 c4 w4 h4 hg4 hn4
        have HPP := hide pp
        clear pp h4 hg4 hn4
        refine hK.out _ _ ?_ (fun hHeld => ?_)
        · trivial
        clear hK K
        try simp only [Act.put, List.setIfInBounds_toArray, List.set_cons_zero, List.set_cons_succ]
        refine wpAnyH_take (i := 6) (v := ?v8) rfl (by kernel_rfl) (by kernel_rfl) (by kernel_rfl) (fun _ _ _ h => h) (Or.inl ⟨by rfl, ?y8⟩) (by assumption) ?r8
        case y8 => (intro w hSw; (try dsimp only at hSw); go_simp; try (with_reducible rfl))
        simp only [List.getElem_toArray, List.getElem_cons_succ, List.getElem_cons_zero, Act.put, List.setIfInBounds_toArray, List.set_cons_zero, List.set_cons_succ]
        refine wpAnyH_ready (rs := [7]) (by kernel_rfl) (by simp) ?_
        refine AllReadyH.cons rfl (fun K hK => ?_) AllReadyH.nil
        simp only [List.getElem_toArray, List.getElem_cons_succ, List.getElem_cons_zero]
        go_simp
        refine hK.out _ _ ?_ (fun hHeld => ?_)
        · trivial
        clear hK K
        try simp only [Act.put, List.setIfInBounds_toArray, List.set_cons_zero, List.set_cons_succ]
        refine wpAnyH_done (by kernel_rfl) ?_ _
        clear hHeld
        obtain ⟨vn, hvn⟩ := HPP.out
        have HVN := hide hvn
        clear hvn HPP
        go_wp2
        go_roundw
        case rel => exact ⟨k + 1, vn, by omega, by go_num, HVN⟩
        case measure => simp [intOf]; omega
      · simp only [List.getElem_toArray, List.getElem_cons_succ, List.getElem_cons_zero]
        go_simp
        refine hK.out _ _ ?_ (fun hHeld => ?_)
        · trivial
        clear hK K
        try simp only [Act.put, List.setIfInBounds_toArray, List.set_cons_zero, List.set_cons_succ]
        refine wpAnyH_ready (rs := [1, 4]) (by kernel_rfl) (by simp) ?_
        refine AllReadyH.cons rfl (fun K hK => ?_) (AllReadyH.cons rfl (fun K hK => ?_) AllReadyH.nil)
        · simp only [List.getElem_toArray, List.getElem_cons_succ, List.getElem_cons_zero]
          go_simp
          refine hK.out _ _ ?_ (fun hHeld => ?_)
          · trivial
          clear hK K
          try simp only [Act.put, List.setIfInBounds_toArray, List.set_cons_zero, List.set_cons_succ]
          refine wpAnyH_ready (rs := [4]) (by kernel_rfl) (by simp) ?_
          refine AllReadyH.cons rfl (fun K hK => ?_) AllReadyH.nil
          simp only [List.getElem_toArray, List.getElem_cons_succ, List.getElem_cons_zero]
          go_simp
          refine hK.out _ _ ?_ (fun hHeld => ?_)
          · trivial
          clear hK K
          try simp only [Act.put, List.setIfInBounds_toArray, List.set_cons_zero, List.set_cons_succ]
          refine wpAnyH_ready (rs := [5]) (by kernel_rfl) (by simp) ?_
          refine AllReadyH.cons rfl (fun K hK => ?_) AllReadyH.nil
          simp only [List.getElem_toArray, List.getElem_cons_succ, List.getElem_cons_zero]
          rw [if_pos (by rfl)]
          refine wp_append_lies _ (.tmp 44) (.tmp 47) 36 rfl 0 24 jint (.slice none 0 0) 1 24 Try.underlying36 hjint hyint0 hyint1 hyint2 rfl (by decide) vz.F _ vz.VF rfl OJ.out ⟨wz.heap.size + 1, 0, none⟩ 1 1 [.slice (some ⟨wz.heap.size, 0, none⟩) n n] rfl rfl CX (by intro u hu; simp at hu; subst hu; rfl) (by decide) (by unfold maxLen; omega) (by omega) (Nat.zero_le _) (wz.heap.size + 2) (by simp) ?_
          intro g4 c4 w4 h4 hg4 hn4 _
          obtain ⟨⟨xc, xf⟩, pp⟩ := PP.out g4 c4 w4 h4 hg4 hn4
          have HPP := hide pp
          clear pp h4 hg4 hn4
          refine hK.out _ _ ?_ (fun hHeld => ?_)
          · trivial
          clear hK K
          try simp only [Act.put, List.setIfInBounds_toArray, List.set_cons_zero, List.set_cons_succ]
          refine wpAnyH_take (i := 6) (v := ?v9) rfl (by kernel_rfl) (by kernel_rfl) (by kernel_rfl) (fun _ _ _ h => h) (Or.inl ⟨by rfl, ?y9⟩) (by assumption) ?r9
          case y9 => (intro w hSw; (try dsimp only at hSw); go_simp; try (with_reducible rfl))
          simp only [List.getElem_toArray, List.getElem_cons_succ, List.getElem_cons_zero, Act.put, List.setIfInBounds_toArray, List.set_cons_zero, List.set_cons_succ]
          refine wpAnyH_ready (rs := [7]) (by kernel_rfl) (by simp) ?_
          refine AllReadyH.cons rfl (fun K hK => ?_) AllReadyH.nil
          simp only [List.getElem_toArray, List.getElem_cons_succ, List.getElem_cons_zero]
          go_simp
          refine hK.out _ _ ?_ (fun hHeld => ?_)
          · trivial
          clear hK K
          try simp only [Act.put, List.setIfInBounds_toArray, List.set_cons_zero, List.set_cons_succ]
          refine wpAnyH_done (by kernel_rfl) ?_ _
          clear hHeld
          obtain ⟨vn, hvn⟩ := HPP.out
          have HVN := hide hvn
          clear hvn HPP
          go_wp2
          go_roundw
          case rel => exact ⟨k + 1, vn, by omega, by go_num, HVN⟩
          case measure => simp [intOf]; omega
        · simp only [List.getElem_toArray, List.getElem_cons_succ, List.getElem_cons_zero]
          go_simp
          refine hK.out _ _ ?_ (fun hHeld => ?_)
          · trivial
          clear hK K
          try simp only [Act.put, List.setIfInBounds_toArray, List.set_cons_zero, List.set_cons_succ]
          refine wpAnyH_ready (rs := [1]) (by kernel_rfl) (by simp) ?_
          refine AllReadyH.cons rfl (fun K hK => ?_) AllReadyH.nil
          simp only [List.getElem_toArray, List.getElem_cons_succ, List.getElem_cons_zero]
          go_simp
          refine hK.out _ _ ?_ (fun hHeld => ?_)
          · trivial
          clear hK K
          try simp only [Act.put, List.setIfInBounds_toArray, List.set_cons_zero, List.set_cons_succ]
          refine wpAnyH_ready (rs := [5]) (by kernel_rfl) (by simp) ?_
          refine AllReadyH.cons rfl (fun K hK => ?_) AllReadyH.nil
          simp only [List.getElem_toArray, List.getElem_cons_succ, List.getElem_cons_zero]
          rw [if_pos (by rfl)]
          refine wp_append_lies _ (.tmp 44) (.tmp 47) 36 rfl 0 24 jint (.slice none 0 0) 1 24 Try.underlying36 hjint hyint0 hyint1 hyint2 rfl (by decide) vz.F _ vz.VF rfl OJ.out ⟨wz.heap.size + 1, 0, none⟩ 1 1 [.slice (some ⟨wz.heap.size, 0, none⟩) n n] rfl rfl CX (by intro u hu; simp at hu; subst hu; rfl) (by decide) (by unfold maxLen; omega) (by omega) (Nat.zero_le _) (wz.heap.size + 2) (by simp) ?_
          intro g4 c4 w4 h4 hg4 hn4 _
          obtain ⟨⟨xc, xf⟩, pp⟩ := PP.out g4 c4 w4 h4 hg4 hn4
          have HPP := hide pp
          clear pp h4 hg4 hn4
          refine hK.out _ _ ?_ (fun hHeld => ?_)
          · trivial
          clear hK K
          try simp only [Act.put, List.setIfInBounds_toArray, List.set_cons_zero, List.set_cons_succ]
          refine wpAnyH_take (i := 6) (v := ?v10) rfl (by kernel_rfl) (by kernel_rfl) (by kernel_rfl) (fun _ _ _ h => h) (Or.inl ⟨by rfl, ?y10⟩) (by assumption) ?r10
          case y10 => (intro w hSw; (try dsimp only at hSw); go_simp; try (with_reducible rfl))
          simp only [List.getElem_toArray, List.getElem_cons_succ, List.getElem_cons_zero, Act.put, List.setIfInBounds_toArray, List.set_cons_zero, List.set_cons_succ]
          refine wpAnyH_ready (rs := [7]) (by kernel_rfl) (by simp) ?_
          refine AllReadyH.cons rfl (fun K hK => ?_) AllReadyH.nil
          simp only [List.getElem_toArray, List.getElem_cons_succ, List.getElem_cons_zero]
          go_simp
          refine hK.out _ _ ?_ (fun hHeld => ?_)
          · trivial
          clear hK K
          try simp only [Act.put, List.setIfInBounds_toArray, List.set_cons_zero, List.set_cons_succ]
          refine wpAnyH_done (by kernel_rfl) ?_ _
          clear hHeld
          obtain ⟨vn, hvn⟩ := HPP.out
          have HVN := hide hvn
          clear hvn HPP
          go_wp2
          go_roundw
          case rel => exact ⟨k + 1, vn, by omega, by go_num, HVN⟩
          case measure => simp [intOf]; omega

end Go.Proofs.Ytfjbiihiaoobhai.L12
