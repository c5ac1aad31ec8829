/-
  Contract: the draw of two logs that were alike for a while.
-/
import Derived.Test.YtdnmklcnlndmhacL7DrawE
import Derived.Test.YtdnmklcnlndmhacL7AppH
import Derived.Test.YtdnmklcnlndmhacL7SLast
namespace Go.Proofs.Ytdnmklcnlndmhac.L7
open Go.RowKit L1
set_option linter.unusedVariables false

set_option maxRecDepth 100000 in
set_option maxHeartbeats 4000000 in
theorem twoLogs_any (b N : Nat) (w : World) (h : Cur w b N) (hN : N ≤ 10000000) :
    Calls Try.prog 27 #[.pointer (some ⟨b, 0, none⟩)] w fun e w' => ∃ v1 v2, e = .returned (.tuple #[v1, v2]) ∧ OwnEn w' w.heap.size v1 41 2000 ∧ OwnEn w' w.heap.size v2 45 2000 ∧ Cur w' b (N + 1000) ∧ w.grownBy w' (some b) := by
  obtain ⟨i1, hi1, hy0, hy1, hy2⟩ := info_parts info_ent
  have hbw := h.lt
  have HC := hide h
  clear h
  go_enter Try.func27, Try.ntmps27
  go_wp2_with fail
  refine (entries_any b N _ HC.out (by omega)).mono ?_
  rintro e w1 ⟨va, rfl, hO, hc1, hg1⟩
  obtain ⟨l, hl, hlp, hlo⟩ := hO
  obtain ⟨n, hn⟩ : ∃ n, n = l.length := ⟨_, rfl⟩
  rw [← hn] at hl hlo
  obtain ⟨aa, ac, rfl, hac, ha0⟩ := own_shape7 hlo
  have HN := hide hn.symm
  have HLP := hide hlp
  have C1 := hide hc1
  have G1 := hide hg1
  have O1 := hide hlo
  clear hn hlp hlo hc1 hg1 HC
  go_wp2_with fail
  refine (one_any b _ 6 _ C1.out (by omega) (by omega) (by omega)).mono ?_
  rintro e w2 ⟨t2, rfl, hc2, hg2⟩
  have C2 := hide hc2
  have G2 := hide (grown_trans G1.out hg2)
  have O2 := hide (own_grown4 O1.out hg2 (by omega))
  have hz2 := G2.out.size
  clear hc2 hg2 C1 G1 O1
  cases t2 with
  | true =>
    go_wp2_with fail
    refine (entries_any b _ _ C2.out (by omega)).mono ?_
    rintro e w3 ⟨vb, rfl, hO3, hc3, hg3⟩
    have C3 := hide hc3
    have G3 := hide (grown_trans G2.out hg3)
    have O3 := hide (own_grown4 O2.out hg3 (by omega))
    have OB : Hid (OwnEn w3 w.heap.size vb 45 2000) := by
      obtain ⟨m, hm, hmp, hmo⟩ := hO3
      exact ⟨m, by omega, fun p hp => by have := hmp p hp; omega, own_baseT hmo hz2⟩
    clear hc3 hg3 hO3 C2 G2 O2
    go_wp2
    go_ret2
    exact ⟨_, _, rfl, ⟨l, by rw [HN.out]; omega, fun p hp => by have := HLP.out p hp; omega, by rw [HN.out]; exact O3.out⟩, OB.out, C3.out.mono (by omega), G3.out⟩
  | false =>
    go_wp2_with fail
    refine (pick_any b _ ((n : Int) + 1) _ C2.out (by omega) (by omega) (by omega)).mono ?_
    rintro e w3 ⟨x3, rfl, h30, _, h31, hc3, hg3⟩
    have h31' := h31 (by omega)
    obtain ⟨k, rfl⟩ : ∃ k : Nat, x3 = (k : Int) := ⟨x3.toNat, by omega⟩
    have hkn : k ≤ n := by omega
    have C3 := hide hc3
    have G3 := hide (grown_trans G2.out hg3)
    have O3 := hide (own_grown4 O2.out hg3 (by omega))
    have hz3 := G3.out.size
    obtain ⟨d1, S1⟩ := slice_to aa n ac k hkn hac ha0
    have HTL : Hid ((l.take k).length = k) := by show (l.take k).length = k; have := HN.out; simp; omega
    clear hc3 hg3 h31 C2 G2 O2
    go_wp2_with (first
      | (at_builtin; refine wpList_append_ent rfl _ _ rfl w3.heap.size _ _ 0 0 k d1 [] (l.take k) rfl HTL.out (by omega) (by omega) rfl (own_emptyE _ _ (Nat.le_refl _)) rfl (slE_take (own_slE (O3.out.alloc _)) k) (by simp) ?_)
      | go_in)
    intro a5 c5 w5 ho5 hg5
    have hal : Below w3.heap.size w3 (w3.alloc (.cells #[] 33)) := (Below.refl _ _).alloc (Nat.le_refl _) _
    have hb5 : Below w3.heap.size (w3.alloc (.cells #[] 33)) w5 := (Below.refl _ _).grown hg5 (by simp) (fun g hg => by cases hg; exact Nat.le_refl _)
    have hb35 := hal.trans hb5
    have C5 := hide (C3.out.below hb35)
    have G5 := hide (grown_low G3.out (hb35.mono hz3))
    have O5 := hide (own_belowT O3.out hb35)
    have P5 : Hid (w5.ownsRow w3.heap.size 33 2 (.slice a5 k c5) k (flatE (l.take k))) := by
      first
        | exact ho5
        | (rw [Nat.zero_add] at ho5; exact ho5)
    have hz5 := G5.out.size
    have HA : Hid (∀ g, (Value.slice aa n ac).ownBlock = some g → g < w3.heap.size) := fun g hg => (O3.out.lt g hg).2
    have hz35 := hb35.size
    obtain ⟨B3, hB3⟩ : ∃ B3, B3 = w3.heap.size := ⟨_, rfl⟩
    rw [← hB3] at HA P5 hz35 hz3
    obtain ⟨x, hx⟩ : ∃ x, lastE l = x := ⟨_, rfl⟩
    have hxb : 0 ≤ x ∧ x ≤ 1001 := by
      rw [← hx]
      unfold lastE
      split
      · omega
      · rename_i h0
        have hj : l.length - 1 < l.length := by omega
        have := (HLP.out (l.getD (l.length - 1) eE) (by
          rw [show l.getD (l.length - 1) eE = l[l.length - 1] by simp [List.getD, List.getElem?_eq_getElem hj]]
          exact List.getElem_mem hj)).1
        exact this
    have CL := hide (fun w hs => l7Last_any aa l n ac w HN.out hs (by omega) x hx)
    have hxb0 := hxb.1
    have hxb1 := hxb.2
    clear ho5 hg5 hal hb5 hb35 hx hxb C3 G3 O3 hB3
    go_wp2_with fail
    refine (CL.out _ (own_slE O5.out)).mono ?_
    rintro e wq ⟨rfl, rfl⟩
    go_wp2_with fail
    refine (pick_any b _ 4 _ C5.out (by omega) (by omega) (by omega)).mono ?_
    rintro e w6 ⟨x6, rfl, h60, _, h61, hc6, hg6⟩
    have h61' := h61 (by omega)
    obtain ⟨q0, rfl⟩ : ∃ q : Nat, x6 = (q : Int) := ⟨x6.toNat, by omega⟩
    have C6 := hide hc6
    have G6 := hide (grown_trans G5.out hg6)
    have O6 := hide (own_grown4 O5.out hg6 (by omega))
    have P6 := hide (own_grown4 P5.out hg6 (by omega))
    have HG6s := hg6.size
    clear hc6 hg6 h61 C5 G5 O5 P5 CL
    have HZ6 : Hid (B3 ≤ w6.heap.size) := by show B3 ≤ w6.heap.size; have := HG6s; omega
    clear HG6s
    have HLT : Hid (∀ p ∈ l.take k, (0 ≤ p.1 ∧ p.1 ≤ 1100) ∧ p.2.size ≤ 20) := fun p hp => by have := HLP.out p (List.mem_of_mem_take hp); omega
    go_wp2
    have hz6 := G6.out.size
    go_loopw [6, 7, 8] (fun lv ev nv wr => ∃ (j : Nat) (E : Int), nv = .int .i64 j ∧ ev = .int .i64 E ∧ j ≤ 3 ∧ 1 ≤ E ∧ E + (j : Int) ≤ 1010 ∧ OwnEn wr B3 lv (45 - j) 1100 ∧ wr.ownsRow w.heap.size 33 2 (.slice aa n ac) n (flatE l) ∧ Cur wr b (N + 400 + 10 * (3 - j)) ∧ w.grownBy wr (some b) ∧ Hid (B3 ≤ wr.heap.size)) (fun _ _ nv _ => (intOf nv).toNat)
    case atStart => exact ⟨q0, x + 1, rfl, by go_num, by omega, by omega, by omega, ⟨l.take k, by rw [HTL.out]; omega, HLT.out, by rw [HTL.out]; exact P6.out⟩, O6.out, C6.out.mono (by omega), G6.out, by show B3 ≤ w6.heap.size; have := HZ6.out; omega⟩
    case round =>
      obtain ⟨j, E, rfl, rfl, hj, hE1, hE2, hO, hA, hC, hG, HB3⟩ := hrel
      obtain ⟨m, hm, hmp, hmo⟩ := hO
      obtain ⟨n2, hn2⟩ : ∃ n2, n2 = m.length := ⟨_, rfl⟩
      rw [← hn2] at hm hmo
      obtain ⟨oa, ocap, rfl, hcap, _⟩ := own_shape7 hmo
      have hsz := hG.size
      have HN2 := hide hn2.symm
      have HMP := hide hmp
      have HROW := hide hmo
      have HAA := hide hA
      have HCC := hide hC
      have HG := hide hG
      clear hn2 hmp hmo hA hC hG C6 G6 O6 P6
      cases j with
      | succ j =>
        have hjp : (0 : Int) < (j : Int) + 1 := by omega
        have hb3 := HB3.out
        have AM := hide (of_any b (N + 400 + 10 * (3 - (j + 1))) wr.heap.size 2 2 (wr.alloc (.cells #[.string ⟨#[97]⟩, .string ⟨#[98]⟩] 9)) (HCC.out.alloc _) (by omega) (by omega) (by omega) (by omega) (txts_new wr [⟨#[97]⟩, ⟨#[98]⟩] 9 (by decide)))
        go_wp2_with fail
        refine AM.out.mono ?_
        rintro e w8 ⟨s, rfl, hs, hc8, hg8⟩
        have C8 := hide hc8
        have G8 := hide (grown_trans HG.out (grown_trans (grown_alloc _ _ _) hg8))
        have R8 := hide (own_grown4 (HROW.out.alloc (.cells #[.string ⟨#[97]⟩, .string ⟨#[98]⟩] 9)) hg8 (by omega))
        have A8 := hide (own_grown4 (HAA.out.alloc (.cells #[.string ⟨#[97]⟩, .string ⟨#[98]⟩] 9)) hg8 (by omega))
        have hz8 := G8.out.size
        have hb8 : B3 ≤ w8.heap.size := by have := hg8.size; simp at this; omega
        clear hc8 hg8 AM HCC HG HROW HAA
        go_wp2_with (first
          | (at_builtin; refine wpList_append_own _ rfl _ _ 23 rfl B3 33 i1 (.agg #[.int .i64 0, .string ByteArray.empty]) 2 24 Try.underlying23 hi1 hy0 hy1 hy2 rfl (by decide) _ _ _ rfl (R8.out.alloc _) ⟨w8.heap.size, 0, none⟩ 1 1 [.int .i64 E, .string s] rfl rfl (cell_two_at _ _ _ _) (by intro u hu; simp at hu; rcases hu with rfl | rfl <;> rfl) (by unfold maxLen; omega) (by omega) (by simp; omega) ?_)
          | go_in)
        intro v9 w9 hown9 hgrow9 _
        have hb9 : Below B3 w8 w9 := ((Below.refl _ _).alloc (by omega) _).grown hgrow9 (by simp; omega) (fun g hg => (R8.out.lt g hg).1)
        have O9 : Hid (OwnEn w9 B3 v9 (45 - j) 1100) := by
          refine ⟨m ++ [(E, s)], by simp; have := HN2.out; omega, fun p hp => ?_, ?_⟩
          · rcases List.mem_append.1 hp with h | h
            · exact HMP.out p h
            · simp at h; subst h; exact ⟨⟨by show 0 ≤ E; omega, by show E ≤ 1100; omega⟩, hs⟩
          · rw [flatE_snoc, List.length_append, HN2.out]
            exact hown9
        have A9 := hide (own_belowB A8.out hb9 HA.out)
        have C9 := hide (C8.out.kept (fun i hi => hb9.block i (by omega)))
        have G9 := hide (grown_low G8.out (hb9.mono hz3))
        have hz9 := hb9.size
        have hb93 : B3 ≤ w9.heap.size := by omega
        obtain ⟨oa9, oc9, rfl, _, _⟩ := own_shape7 hown9
        clear hown9 hgrow9 hb9 C8 G8 R8 A8
        go_wp2_with fail
        refine (pick_any b _ 2 _ C9.out (by omega) (by omega) (by omega)).mono ?_
        rintro e wa ⟨xa, rfl, ha0', _, ha1, hca, hga⟩
        have ha1' := ha1 (by omega)
        have CA := hide hca
        have GA := hide (grown_trans G9.out hga)
        have OA := hide (OwnEn.grown O9.out hga (by omega))
        have AA := hide (own_grown4 A9.out hga (by omega))
        have hba : B3 ≤ wa.heap.size := by have := hga.size; omega
        have HBA := hide hba
        clear hca hga ha1 C9 G9 O9 A9 hba
        go_wp2
        go_roundw
        case rel => exact ⟨j, E + xa, by go_num, by go_num, by omega, by omega, by omega, OA.out, AA.out, CA.out.mono (by omega), GA.out, HBA.out⟩
        case measure => simp [intOf]
      | zero =>
        go_wp2
        go_ret2
        exact ⟨_, _, rfl, ⟨l, by rw [HN.out]; omega, fun p hp => by have := HLP.out p hp; omega, by rw [HN.out]; exact HAA.out⟩, ⟨m, by rw [HN2.out]; omega, fun p hp => by have := HMP.out p hp; omega, by rw [HN2.out]; exact own_baseT HROW.out hz3⟩, HCC.out.mono (by omega), HG.out⟩
end Go.Proofs.Ytdnmklcnlndmhac.L7
