/-
  Contracts: a rising set's join; spec.l4Join: those of either list, in new memory.
-/
import Derived.Test.YthicdnkngpiccabL4Chosen
import Derived.Test.YthicdnkngpiccabL4Put
import Derived.Deep.Upon
namespace Go.Proofs.Ythicdnkngpiccab.L4
open Go.RowKit L1
set_option linter.unusedVariables false

theorem jst_step (a b : List Int) (k f u : Nat) (o : List Int) (x : Int) (h : jst a b k = (o, f)) (hx : a.getD k 0 = x) (hu : leap b f x = u) : jst a b (k + 1) = (o ++ (b.drop f).take (u - f) ++ [x], if u < b.length ∧ b.getD u 0 = x then u + 1 else u) := by
  conv => lhs; unfold jst
  rw [h, hx]
  simp only [hu]
theorem own_emptyI (w : World) (base : Nat) (hb : base ≤ w.heap.size) : (w.alloc (.cells #[] 3)).ownsRow base 3 1 (.slice (some ⟨w.heap.size, 0, none⟩) 0 0) 0 [] :=
  ⟨rfl, .inr ⟨w.heap.size, 0, #[], rfl, hb, by show (w.heap.push _)[w.heap.size]? = _; simp, Nat.le_refl _, by unfold maxLen; omega, rfl, rfl⟩⟩
theorem app_nothing (t ty : TypeId) (ht : Try.prog.underlying t = some (.slice 3)) (base ax : Option Addr) (n cap : Nat) (h : n ≤ cap) (w : World) :
    (Builtin.append_ #[t, t] ty #[.slice base n cap, .slice ax 0 0]).run Try.prog w = .ok (.slice base n cap) w := by
  obtain ⟨i1, hi1, _, _, _⟩ := info_parts info_int
  refine run_append_nothing w t t ty 3 i1 ht hi1 base n cap h _ ?_
  cases ax with
  | none => exact Src.ofNil _ ht 0
  | some x => exact Src.ofSlice _ ht x 0 0 [] (by simp) (fun j u hu => by simp at hu) (fun u hu => by simp at hu)
/-- Nothing is put behind a list. -/
theorem wpList_append_no {ops : Array Oper} {rest : List Oper} {o : Oper} {a : Act} {Q : Exit → Act → World → Prop} {w : World} (hgd : o.guard = none) (s x : Operand) (t : TypeId)
    (ho : o.op = .call { callee := .builtin .append, args := #[s, x], argTypes := #[t, t] }) (ht : Try.prog.underlying t = some (.slice 3))
    (base ax : Option Addr) (n cap z : Nat) (hle : n ≤ cap) (hz : Hid (z = 0)) (hs : a.eval s = .slice base n cap) (hx : a.eval x = .slice ax z z)
    (h : wpList Try.prog ops Q rest (a.put o.dst (.slice base n cap)) w) : wpList Try.prog ops Q (o :: rest) a w := by
  obtain rfl : z = 0 := hz.out
  refine wpList_plain hgd fun K hK => ?_
  unfold Oper.wp execOp
  simp only [ho, resolve, invoke, builtin, Sem.run_bind, Sem.run_pure, Result.andThen_ok, List.map_toArray, List.map_cons, List.map_nil, hs, hx, app_nothing t o.type ht base ax n cap hle w]
  exact hK _ _ h
theorem cut_zero (a : Option Addr) (n cap f : Nat) (w : World) (hf : f ≤ n) (hc : n ≤ cap) (hc2 : cap ≤ maxLen) (h0 : a = none → cap = 0) :
    Calls Try.prog 58 #[.slice a n cap, .int .i64 f, .int .i64 f] w fun e w' => ∃ z : Nat, Hid (z = 0) ∧ e = .returned (.slice a z z) ∧ w = w' :=
  (cut_none a n cap f w hf hc hc2 h0).mono fun e w' h => ⟨0, hide rfl, h⟩
/-- What lies in a list's cells. -/
theorem sl_all {w : World} {b off : Nat} {xs : List Int} (h : Sl w (some ⟨b, off, none⟩) xs) : ∀ j u, (xs.map (Value.int .i64))[j]? = some u → w.cell? ((⟨b, off, none⟩ : Addr).add j) = some u := fun j u hu => by
  have := sl_seg h 0 xs.length j u (by simpa using hu)
  simpa using this

set_option maxRecDepth 100000 in
set_option maxHeartbeats 8000000 in
theorem join_any (a : Option Addr) (xs : List Int) (n cap : Nat) (b : Option Addr) (ys : List Int) (n2 cap2 : Nat) (w : World) (hn : xs.length = n) (hs : Sl w a xs) (hn2 : n ≤ 1048576) (hm : ys.length = n2) (ht : SlC w b n2 cap2 ys) (hm2 : n2 ≤ 1048576) (hrx : Rise xs) (hry : Rise ys) :
    Calls Try.prog 34 #[.slice a n cap, .slice b n2 cap2] w fun e w' => RetN w (joinL xs ys) e w' := by
  obtain ⟨i1, hi1, hy0, hy1, hy2⟩ := info_parts info_int
  have HS := hide hs
  have HN := hide hn
  have HT := hide ht
  have HM2 := hide hm
  have HL := hide (fun f x w r ht hf hr => leap_any b ys n2 cap2 f x w hm (SlC.sl ht) hm2 hf (SlC.le ht) (SlC.max ht) (SlC.nil ht) hry r hr)
  have HH := hide (fun k x w bb (ht : SlC w b n2 cap2 ys) hb => hasAt_any b ys n2 cap2 k x w hm (SlC.sl ht) bb hb)
  have HI := hide (fun k hk => jinv hrx hry k hk)
  have HE := hide (join_eq hrx hry)
  clear hs hn ht hm hrx hry
  go_enter Try.func34, Try.ntmps34
  go_wp2
  go_loopw [5, 6, 12] (fun ot s6 i wr => ∃ k : Nat, k ≤ n ∧ i = .int .i64 k ∧ wr.ownsRow w.heap.size 3 1 ot (jst xs ys k).1.length ((jst xs ys k).1.map (Value.int .i64)) ∧ Below w.heap.size w wr ∧ s6 = .int .i64 ((jst xs ys k).2 : Nat)) (fun _ _ i _ => n - (intOf i).toNat)
  case atStart => exact ⟨0, Nat.zero_le _, rfl, World.ownsRow_nil _ _ _ _, Below.refl _ _, rfl⟩
  case round =>
    obtain ⟨k, hk, rfl, hown, hbel, rfl⟩ := hrel
    obtain ⟨oa, ocap, rfl, _, _⟩ := own_form hown
    have I := HI.out k (by rw [HN.out]; exact hk)
    have hf := I.le
    have hol := I.len
    obtain ⟨⟨o, f⟩, hof⟩ : ∃ p, p = jst xs ys k := ⟨_, rfl⟩
    rw [← hof] at hown hf hol ⊢
    simp only at hown hf hol ⊢
    rw [HM2.out] at hf
    clear I
    obtain ⟨m, hmm⟩ : ∃ m, m = o.length := ⟨_, rfl⟩
    rw [← hmm] at hown hol ⊢
    have HM := hide hmm.symm
    have HCAP := hide hown
    clear hmm
    have hmc := (own_slC HCAP.out).le
    clear HCAP
    by_cases hlt : k < n
    · obtain ⟨b1, off, rfl, hc0⟩ := HS.out k (by rw [HN.out]; exact hlt)
      have hc := (hbel.cell (p := ⟨b1, off + k, none⟩) (blk_lt hc0)).trans hc0
      have hltI : (k : Int) < (n : Int) := by omega
      obtain ⟨x, hx⟩ : ∃ x, x = xs.getD k 0 := ⟨_, rfl⟩
      rw [← hx] at hc
      obtain ⟨u, hu⟩ : ∃ u, leap ys f x = u := ⟨_, rfl⟩
      have hfu : f ≤ u := by rw [← hu]; exact leap_ge _ _ _
      have hun : u ≤ n2 := by have := leap_le ys f x (by rw [HM2.out]; exact hf); rw [hu, HM2.out] at this; exact this
      have hst := jst_step xs ys k f u o x hof.symm hx.symm hu
      have hj1 : (jst xs ys (k + 1)).1 = o ++ (ys.drop f).take (u - f) ++ [x] := by rw [hst]
      have HJ1 := hide hj1
      have HUL := hide hu
      have HT0 := hide (HT.out.below hbel)
      have HROW0 := hide hown
      have B0 := hide hbel
      have hsz0 := hbel.size
      clear hc0 hx hown hbel hof hj1 hu
      by_cases hhas : u < ys.length ∧ ys.getD u 0 = x
      · have hj2 : (jst xs ys (k + 1)).2 = u + 1 := by rw [hst]; exact if_pos hhas
        have hbb : true = true ↔ u < ys.length ∧ ys.getD u 0 = x := iff_of_true rfl hhas
        have HJ2 := hide hj2
        have HYY := hide hbb
        clear hj2 hbb hst hhas
        by_cases hfu2 : f < u
        · obtain ⟨bb, off2, rfl, _⟩ := HT.out.sl f (by rw [HM2.out]; omega)
          have hfu' : f < u := by omega
          go_wp2_with fail
          refine (HL.out f x _ u HT0.out hf HUL.out).mono ?_
          rintro e w1 ⟨rfl, hb1⟩
          have HT1 := hide (HT0.out.below hb1)
          have HROW := hide (own_belowT HROW0.out hb1)
          have B1 := hide (B0.out.trans (hb1.mono B0.out.size))
          have hsz := B1.out.size
          clear hb1
          go_wp2_with fail
          refine (cut_some bb off2 n2 cap2 f u _ hfu' hun HT.out.le HT.out.max).mono ?_
          rintro e w2 ⟨rfl, rfl⟩
          go_wp2_with (first
            | (at_builtin; refine wpList_append_own _ rfl _ _ 57 rfl w.heap.size 3 i1 (.int .i64 0) 1 8 Try.underlying57 hi1 hy0 hy1 hy2 rfl (by decide) _ _ _ rfl HROW.out ⟨bb, off2 + f, none⟩ (u - f) (u - f) (((ys.drop f).take (u - f)).map (Value.int .i64)) rfl (by have := HM2.out; simp; omega) (sl_seg HT1.out.sl f (u - f)) (ints_one _) (by unfold maxLen; omega) (by omega) hsz ?_)
            | go_in)
          intro v5 w5 hown5 hgrow5 _
          have HOA : Hid (w5.ownsRow w.heap.size 3 1 v5 (m + (u - f)) ((o ++ (ys.drop f).take (u - f)).map (Value.int .i64))) := by
            refine hide ?_
            rw [List.map_append, List.map_take, List.map_drop]
            exact hown5
          have hb5 := (Below.refl _ _).grown hgrow5 hsz (fun g hg => (HROW.out.lt g hg).1)
          have BA := hide (B1.out.trans hb5)
          have HT5 : Hid (SlC w5 (some ⟨bb, off2, none⟩) n2 cap2 ys) := HT.out.below BA.out
          clear hown5 hgrow5 hb5
          obtain ⟨oa5, oc5, rfl⟩ := own_shapeT HOA.out
          have hszA := BA.out.size
          go_wp2_with (first
            | (at_builtin; refine wpList_append_own _ rfl _ _ 57 rfl w.heap.size 3 i1 (.int .i64 0) 1 8 Try.underlying57 hi1 hy0 hy1 hy2 rfl (by decide) _ _ _ rfl (HOA.out.alloc _) ⟨w5.heap.size, 0, none⟩ 1 1 [.int .i64 x] rfl rfl (cell_one_new _ _ _) (by intro u hu; simp at hu; subst hu; rfl) (by unfold maxLen; omega) (by omega) (by simp; omega) ?_)
            | go_in)
          intro v6 w6 hown6 hgrow6 _
          have hb6 := BA.out.trans (((Below.refl _ _).alloc hszA _).grown hgrow6 (by simp; omega) (fun g hg => (HOA.out.lt g hg).1))
          have hown8 : w6.ownsRow w.heap.size 3 1 v6 (jst xs ys (k + 1)).1.length ((jst xs ys (k + 1)).1.map (Value.int .i64)) := by
            rw [HJ1.out]
            have hl : (o ++ (ys.drop f).take (u - f) ++ [x]).length = m + (u - f) + 1 := by
              have := HM.out; have := HM2.out
              simp; omega
            rw [hl]
            simpa using hown6
          have hown7 := hide hown8
          have HT6 := hide (HT.out.below hb6)
          have B6 := hide hb6
          clear hown6 hgrow6 hown8 hb6
          go_wp2_with fail
          refine (HH.out u x _ true HT6.out (by simpa using HYY.out)).mono ?_
          rintro e w7 ⟨rfl, rfl⟩
          go_wp2
          go_roundw
          case rel => exact ⟨k + 1, by omega, by go_num, hown7.out, B6.out, by rw [HJ2.out]; go_num⟩
          case measure => simp [intOf]; omega
        · obtain rfl : f = u := by omega
          go_wp2_with fail
          refine (HL.out f x _ f HT0.out hf HUL.out).mono ?_
          rintro e w1 ⟨rfl, hb1⟩
          have HT1 := hide (HT0.out.below hb1)
          have HROW := hide (own_belowT HROW0.out hb1)
          have B1 := hide (B0.out.trans (hb1.mono B0.out.size))
          have hsz := B1.out.size
          clear hb1
          go_wp2_with fail
          refine (cut_zero _ n2 cap2 f _ hun HT.out.le HT.out.max HT.out.nil).mono ?_
          rintro e w2 ⟨z, HZ, rfl, rfl⟩
          have HOA : Hid (w1.ownsRow w.heap.size 3 1 (.slice oa m ocap) (m + (f - f)) ((o ++ (ys.drop f).take (f - f)).map (Value.int .i64))) := by
            refine hide ?_
            simpa using HROW.out
          have BA := B1
          have hszA := BA.out.size
          go_wp2_with (first
            | (at_builtin; refine wpList_append_no rfl _ _ 57 rfl Try.underlying57 oa b m ocap z hmc HZ rfl rfl ?_)
            | (at_builtin; refine wpList_append_own _ rfl _ _ 57 rfl w.heap.size 3 i1 (.int .i64 0) 1 8 Try.underlying57 hi1 hy0 hy1 hy2 rfl (by decide) _ _ _ rfl (HOA.out.alloc _) ⟨w1.heap.size, 0, none⟩ 1 1 [.int .i64 x] rfl rfl (cell_one_new _ _ _) (by intro u hu; simp at hu; subst hu; rfl) (by unfold maxLen; omega) (by omega) (by simp; omega) ?_)
            | go_in)
          intro v6 w6 hown6 hgrow6 _
          have hb6 := BA.out.trans (((Below.refl _ _).alloc hszA _).grown hgrow6 (by simp; omega) (fun g hg => (HOA.out.lt g hg).1))
          have hown8 : w6.ownsRow w.heap.size 3 1 v6 (jst xs ys (k + 1)).1.length ((jst xs ys (k + 1)).1.map (Value.int .i64)) := by
            rw [HJ1.out]
            have hl : (o ++ (ys.drop f).take (f - f) ++ [x]).length = m + (f - f) + 1 := by
              have := HM.out; have := HM2.out
              simp; omega
            rw [hl]
            simpa using hown6
          have hown7 := hide hown8
          have HT6 := hide (HT.out.below hb6)
          have B6 := hide hb6
          clear hown6 hgrow6 hown8 hb6
          go_wp2_with fail
          refine (HH.out f x _ true HT6.out (by simpa using HYY.out)).mono ?_
          rintro e w7 ⟨rfl, rfl⟩
          go_wp2
          go_roundw
          case rel => exact ⟨k + 1, by omega, by go_num, hown7.out, B6.out, by rw [HJ2.out]; go_num⟩
          case measure => simp [intOf]; omega
      · have hj2 : (jst xs ys (k + 1)).2 = u := by rw [hst]; exact if_neg hhas
        have hbb : false = true ↔ u < ys.length ∧ ys.getD u 0 = x := iff_of_false (by simp) hhas
        have HJ2 := hide hj2
        have HYY := hide hbb
        clear hj2 hbb hst hhas
        by_cases hfu2 : f < u
        · obtain ⟨bb, off2, rfl, _⟩ := HT.out.sl f (by rw [HM2.out]; omega)
          have hfu' : f < u := by omega
          go_wp2_with fail
          refine (HL.out f x _ u HT0.out hf HUL.out).mono ?_
          rintro e w1 ⟨rfl, hb1⟩
          have HT1 := hide (HT0.out.below hb1)
          have HROW := hide (own_belowT HROW0.out hb1)
          have B1 := hide (B0.out.trans (hb1.mono B0.out.size))
          have hsz := B1.out.size
          clear hb1
          go_wp2_with fail
          refine (cut_some bb off2 n2 cap2 f u _ hfu' hun HT.out.le HT.out.max).mono ?_
          rintro e w2 ⟨rfl, rfl⟩
          go_wp2_with (first
            | (at_builtin; refine wpList_append_own _ rfl _ _ 57 rfl w.heap.size 3 i1 (.int .i64 0) 1 8 Try.underlying57 hi1 hy0 hy1 hy2 rfl (by decide) _ _ _ rfl HROW.out ⟨bb, off2 + f, none⟩ (u - f) (u - f) (((ys.drop f).take (u - f)).map (Value.int .i64)) rfl (by have := HM2.out; simp; omega) (sl_seg HT1.out.sl f (u - f)) (ints_one _) (by unfold maxLen; omega) (by omega) hsz ?_)
            | go_in)
          intro v5 w5 hown5 hgrow5 _
          have HOA : Hid (w5.ownsRow w.heap.size 3 1 v5 (m + (u - f)) ((o ++ (ys.drop f).take (u - f)).map (Value.int .i64))) := by
            refine hide ?_
            rw [List.map_append, List.map_take, List.map_drop]
            exact hown5
          have hb5 := (Below.refl _ _).grown hgrow5 hsz (fun g hg => (HROW.out.lt g hg).1)
          have BA := hide (B1.out.trans hb5)
          have HT5 : Hid (SlC w5 (some ⟨bb, off2, none⟩) n2 cap2 ys) := HT.out.below BA.out
          clear hown5 hgrow5 hb5
          obtain ⟨oa5, oc5, rfl⟩ := own_shapeT HOA.out
          have hszA := BA.out.size
          go_wp2_with (first
            | (at_builtin; refine wpList_append_own _ rfl _ _ 57 rfl w.heap.size 3 i1 (.int .i64 0) 1 8 Try.underlying57 hi1 hy0 hy1 hy2 rfl (by decide) _ _ _ rfl (HOA.out.alloc _) ⟨w5.heap.size, 0, none⟩ 1 1 [.int .i64 x] rfl rfl (cell_one_new _ _ _) (by intro u hu; simp at hu; subst hu; rfl) (by unfold maxLen; omega) (by omega) (by simp; omega) ?_)
            | go_in)
          intro v6 w6 hown6 hgrow6 _
          have hb6 := BA.out.trans (((Below.refl _ _).alloc hszA _).grown hgrow6 (by simp; omega) (fun g hg => (HOA.out.lt g hg).1))
          have hown8 : w6.ownsRow w.heap.size 3 1 v6 (jst xs ys (k + 1)).1.length ((jst xs ys (k + 1)).1.map (Value.int .i64)) := by
            rw [HJ1.out]
            have hl : (o ++ (ys.drop f).take (u - f) ++ [x]).length = m + (u - f) + 1 := by
              have := HM.out; have := HM2.out
              simp; omega
            rw [hl]
            simpa using hown6
          have hown7 := hide hown8
          have HT6 := hide (HT.out.below hb6)
          have B6 := hide hb6
          clear hown6 hgrow6 hown8 hb6
          go_wp2_with fail
          refine (HH.out u x _ false HT6.out (by simpa using HYY.out)).mono ?_
          rintro e w7 ⟨rfl, rfl⟩
          go_wp2
          go_roundw
          case rel => exact ⟨k + 1, by omega, by go_num, hown7.out, B6.out, by rw [HJ2.out]⟩
          case measure => simp [intOf]; omega
        · obtain rfl : f = u := by omega
          go_wp2_with fail
          refine (HL.out f x _ f HT0.out hf HUL.out).mono ?_
          rintro e w1 ⟨rfl, hb1⟩
          have HT1 := hide (HT0.out.below hb1)
          have HROW := hide (own_belowT HROW0.out hb1)
          have B1 := hide (B0.out.trans (hb1.mono B0.out.size))
          have hsz := B1.out.size
          clear hb1
          go_wp2_with fail
          refine (cut_zero _ n2 cap2 f _ hun HT.out.le HT.out.max HT.out.nil).mono ?_
          rintro e w2 ⟨z, HZ, rfl, rfl⟩
          have HOA : Hid (w1.ownsRow w.heap.size 3 1 (.slice oa m ocap) (m + (f - f)) ((o ++ (ys.drop f).take (f - f)).map (Value.int .i64))) := by
            refine hide ?_
            simpa using HROW.out
          have BA := B1
          have hszA := BA.out.size
          go_wp2_with (first
            | (at_builtin; refine wpList_append_no rfl _ _ 57 rfl Try.underlying57 oa b m ocap z hmc HZ rfl rfl ?_)
            | (at_builtin; refine wpList_append_own _ rfl _ _ 57 rfl w.heap.size 3 i1 (.int .i64 0) 1 8 Try.underlying57 hi1 hy0 hy1 hy2 rfl (by decide) _ _ _ rfl (HOA.out.alloc _) ⟨w1.heap.size, 0, none⟩ 1 1 [.int .i64 x] rfl rfl (cell_one_new _ _ _) (by intro u hu; simp at hu; subst hu; rfl) (by unfold maxLen; omega) (by omega) (by simp; omega) ?_)
            | go_in)
          intro v6 w6 hown6 hgrow6 _
          have hb6 := BA.out.trans (((Below.refl _ _).alloc hszA _).grown hgrow6 (by simp; omega) (fun g hg => (HOA.out.lt g hg).1))
          have hown8 : w6.ownsRow w.heap.size 3 1 v6 (jst xs ys (k + 1)).1.length ((jst xs ys (k + 1)).1.map (Value.int .i64)) := by
            rw [HJ1.out]
            have hl : (o ++ (ys.drop f).take (f - f) ++ [x]).length = m + (f - f) + 1 := by
              have := HM.out; have := HM2.out
              simp; omega
            rw [hl]
            simpa using hown6
          have hown7 := hide hown8
          have HT6 := hide (HT.out.below hb6)
          have B6 := hide hb6
          clear hown6 hgrow6 hown8 hb6
          go_wp2_with fail
          refine (HH.out f x _ false HT6.out (by simpa using HYY.out)).mono ?_
          rintro e w7 ⟨rfl, rfl⟩
          go_wp2
          go_roundw
          case rel => exact ⟨k + 1, by omega, by go_num, hown7.out, B6.out, by rw [HJ2.out]⟩
          case measure => simp [intOf]; omega
    · obtain rfl : k = n := by omega
      have hltI : ¬ (k : Int) < (k : Int) := by omega
      have he := HE.out
      rw [HN.out, ← hof] at he
      simp only at he
      have HEE := hide he
      have HROW := hide hown
      have B1 := hide hbel
      have hsz := hbel.size
      have HT1 := hide (HT.out.below hbel)
      clear he hof hown hbel
      by_cases hfe : f < n2
      · obtain ⟨bb, off2, rfl, _⟩ := HT.out.sl f (by rw [HM2.out]; omega)
        go_wp2_with fail
        refine (cut_some bb off2 n2 cap2 f n2 _ hfe (Nat.le_refl _) HT.out.le HT.out.max).mono ?_
        rintro e w2 ⟨rfl, rfl⟩
        go_wp2_with (first
          | (at_builtin; refine wpList_append_own _ rfl _ _ 57 rfl w.heap.size 3 i1 (.int .i64 0) 1 8 Try.underlying57 hi1 hy0 hy1 hy2 rfl (by decide) _ _ _ rfl HROW.out ⟨bb, off2 + f, none⟩ (n2 - f) (n2 - f) (((ys.drop f).take (n2 - f)).map (Value.int .i64)) rfl (by have := HM2.out; simp; omega) (sl_seg HT1.out.sl f (n2 - f)) (ints_one _) (by unfold maxLen; omega) (by omega) hsz ?_)
          | go_in)
        intro v5 w5 hown5 hgrow5 _
        have hb5 := B1.out.trans ((Below.refl _ _).grown hgrow5 hsz (fun g hg => (HROW.out.lt g hg).1))
        have hown8 : w5.ownsRow w.heap.size 3 1 v5 (joinL xs ys).length ((joinL xs ys).map (Value.int .i64)) := by
          rw [← HEE.out]
          have hl : (o ++ ys.drop f).length = m + (n2 - f) := by have := HM.out; have := HM2.out; simp; omega
          have hd : ((ys.map (Value.int .i64)).drop f).take (n2 - f) = (ys.map (Value.int .i64)).drop f := List.take_of_length_le (by have := HM2.out; simp; omega)
          rw [hd] at hown5
          rw [hl]
          simpa using hown5
        have hown7 := hide hown8
        clear hown5 hgrow5 hown8
        go_wp2
        go_ret
        exact ⟨_, rfl, hown7.out, hb5⟩
      · obtain rfl : f = n2 := by omega
        have hown8 : wr.ownsRow w.heap.size 3 1 (.slice oa m ocap) (joinL xs ys).length ((joinL xs ys).map (Value.int .i64)) := by
          have hd : ys.drop f = [] := List.drop_of_length_le (by have := HM2.out; omega)
          have he := HEE.out
          rw [hd, List.append_nil] at he
          rw [← he, HM.out]
          exact HROW.out
        have hown7 := hide hown8
        clear hown8
        go_wp2_with fail
        refine (cut_zero _ f cap2 f _ (Nat.le_refl _) HT.out.le HT.out.max HT.out.nil).mono ?_
        rintro e w2 ⟨z, HZ, rfl, rfl⟩
        go_wp2_with (first
          | (at_builtin; refine wpList_append_no rfl _ _ 57 rfl Try.underlying57 oa b m ocap z hmc HZ rfl rfl ?_)
          | go_in)
        go_ret
        exact ⟨_, rfl, hown7.out, B1.out⟩
end Go.Proofs.Ythicdnkngpiccab.L4
