/-
  The walk of the law FnParts: it returns true at every two lists of bytes; memory that was there stays as it was.
-/
import Derived.Test.YtdnmklcnlndmhacL7LawMath
import Derived.Test.YtdnmklcnlndmhacL7OwnEn
import Derived.Test.YtdnmklcnlndmhacL7Draws
import Derived.Test.YtdnmklcnlndmhacL7Same
import Derived.Test.YtdnmklcnlndmhacL7Match
import Derived.Test.YtdnmklcnlndmhacL7SMatch
import Derived.Test.YtdnmklcnlndmhacL7PartAt
import Derived.Test.YtdnmklcnlndmhacL7SPartAt
import Derived.Test.YtdnmklcnlndmhacL7IsNewer
import Derived.Test.YtdnmklcnlndmhacL7SIsNewer
import Derived.Test.YtdnmklcnlndmhacL7StartsOf
import Derived.Test.YtdnmklcnlndmhacL7SStartsOf
import Derived.Test.YtdnmklcnlndmhacL7EndOf
import Derived.Test.YtdnmklcnlndmhacL7SEndOf
import Derived.Deep.DeepCutAuto
namespace Go.Proofs.Ytdnmklcnlndmhac.fnParts
open Go.RowKit L1 L7
set_option linter.unusedVariables false

set_option maxRecDepth 100000 in
set_option maxHeartbeats 8000000 in
theorem walk (a0 : Option Addr) (len0 cap0 : Nat) (z0 : List Int) (a1 : Option Addr) (len1 cap1 : Nat) (z1 : List Int) (w : World) (w0 : IsRow .u8 w a0 len0 cap0 z0) (hr0 : len0 ≤ 140737488351232) (w1 : IsRow .u8 w a1 len1 cap1 z1) (hr1 : len1 ≤ 140737488351232) :
    Calls Try.prog 3 #[.slice a0 len0 cap0, .slice a1 len1 cap1] w fun e w' => e = .returned (.bool true) ∧ Below w.heap.size w w' := by
  have S0 := hide (slb_of_row w0)
  have S1 := hide (slb_of_row w1)
  clear w0 w1
  by_cases hsz : 1048576 < (len0 : Int) + (len1 : Int)
  · go_enter Try.func3, Try.ntmps3
    go_wp2
    go_ret
    exact ⟨rfl, Below.refl _ _⟩
  · have hl0 : len0 ≤ 1048576 := by omega
    have hl1 : len1 ≤ 1048576 := by omega
    go_enter Try.func3, Try.ntmps3
    go_wp2_with fail
    refine (drawPartAt_any a0 len0 cap0 _ S0.out hl0).mono ?_
    rintro e u1 ⟨v1, v2, rfl, ho1, ho2, hb⟩
    obtain ⟨l, aa, n, ac, rfl, hn, hn41, hlt, hac, ha0, hls⟩ := own_en ho1
    obtain ⟨m, ba, k, bc, rfl, hk, hk45, hmt, hbc, hb0, hms⟩ := own_en ho2
    obtain ⟨p, ok, hv⟩ : ∃ p ok, prtR l m = (p, ok) := ⟨_, _, rfl⟩
    obtain ⟨mv, ok2, hv2⟩ : ∃ p ok, matR l m = (p, ok) := ⟨_, _, rfl⟩
    obtain ⟨nv, ok3, hv3⟩ : ∃ p ok, newR l m = (p, ok) := ⟨_, _, rfl⟩
    obtain ⟨gd, hgd⟩ : ∃ gd : Bool, gd = true ↔ GoodE l := by classical exact ⟨decide (GoodE l), by simp⟩
    have C0 := hide (fun (wx : World) (h1 : SlE wx aa l) (h2 : SlE wx ba m) => implPartAt_any aa ba l m n ac k bc wx hn h1 (by omega) hlt hk h2 (by omega) hmt p ok hv)
    have C1 := hide (fun (wx : World) (h1 : SlE wx aa l) (h2 : SlE wx ba m) => specPartAt_any aa ba l m n ac k bc wx hn h1 (by omega) hlt hk h2 (by omega) hmt p ok hv)
    have C2 := hide (fun (wx : World) (h1 : SlE wx aa l) (h2 : SlE wx ba m) => implMatch_any aa ba l m n ac k bc wx hn h1 (by omega) hlt hk h2 (by omega) hmt mv ok2 hv2)
    have C3 := hide (fun (wx : World) (h1 : SlE wx aa l) (h2 : SlE wx ba m) => specMatch_any aa ba l m n ac k bc wx hn h1 (by omega) hlt hk h2 (by omega) hmt mv ok2 hv2)
    have C4 := hide (fun (wx : World) (h1 : SlE wx aa l) (h2 : SlE wx ba m) => implIsNewer_any aa ba l m n ac k bc wx hn h1 (by omega) hlt hk h2 (by omega) hmt nv ok3 hv3)
    have C5 := hide (fun (wx : World) (h1 : SlE wx aa l) (h2 : SlE wx ba m) => specIsNewer_any aa ba l m n ac k bc wx hn h1 (by omega) hlt hk h2 (by omega) hmt nv ok3 hv3)
    have C6 := hide (fun (wx : World) (h1 : SlE wx aa l) => goodEntries_any aa l n ac wx hn h1 (by omega) hlt gd hgd)
    have C7 := hide (fun (wx : World) (h1 : SlE wx aa l) => specGoodEntries_any aa l n ac wx hn h1 (by omega) hlt gd hgd)
    have HV := hide hv
    have HV2 := hide hv2
    have HV3 := hide hv3
    have HN := hide hn
    have HK := hide hk
    have HLT := hide hlt
    have HMT := hide hmt
    have B0 := hide hb
    have L0 := hide hls
    have M0 := hide hms
    clear hv hv2 hv3 hgd hn hk hlt hmt hb hls hms ho1 ho2
    go_wp2_with fail
    refine (C0.out _ L0.out M0.out).mono ?_
    rintro e v1 ⟨rfl, hb⟩
    have bb := hide hb
    have B1 := hide (B0.out.trans (bb.out.mono B0.out.size))
    clear B0
    have L1 := hide (L0.out.below bb.out)
    clear L0
    have M1 := hide (M0.out.below bb.out)
    clear M0
    clear bb
    clear hb
    go_wp2_with fail
    refine (C1.out _ L1.out M1.out).mono ?_
    rintro e v2 ⟨rfl, hb⟩
    have bb := hide hb
    have B2 := hide (B1.out.trans (bb.out.mono B1.out.size))
    clear B1
    have L2 := hide (L1.out.below bb.out)
    clear L1
    have M2 := hide (M1.out.below bb.out)
    clear M1
    clear bb
    clear hb
    go_wp2_with fail
    refine (C2.out _ L2.out M2.out).mono ?_
    rintro e v3 ⟨rfl, hb⟩
    have bb := hide hb
    have B3 := hide (B2.out.trans (bb.out.mono B2.out.size))
    clear B2
    have L3 := hide (L2.out.below bb.out)
    clear L2
    have M3 := hide (M2.out.below bb.out)
    clear M2
    clear bb
    clear hb
    go_wp2_with fail
    refine (C3.out _ L3.out M3.out).mono ?_
    rintro e v4 ⟨rfl, hb⟩
    have bb := hide hb
    have B4 := hide (B3.out.trans (bb.out.mono B3.out.size))
    clear B3
    have L4 := hide (L3.out.below bb.out)
    clear L3
    have M4 := hide (M3.out.below bb.out)
    clear M3
    clear bb
    clear hb
    go_wp2_with fail
    refine (C4.out _ L4.out M4.out).mono ?_
    rintro e v5 ⟨rfl, hb⟩
    have bb := hide hb
    have B5 := hide (B4.out.trans (bb.out.mono B4.out.size))
    clear B4
    have L5 := hide (L4.out.below bb.out)
    clear L4
    have M5 := hide (M4.out.below bb.out)
    clear M4
    clear bb
    clear hb
    go_wp2_with fail
    refine (C5.out _ L5.out M5.out).mono ?_
    rintro e v6 ⟨rfl, hb⟩
    have bb := hide hb
    have B6 := hide (B5.out.trans (bb.out.mono B5.out.size))
    clear B5
    have L6 := hide (L5.out.below bb.out)
    clear L5
    have M6 := hide (M5.out.below bb.out)
    clear M5
    clear bb
    clear hb
    go_wp2_with fail
    refine (C6.out _ L6.out).mono ?_
    rintro e v7 ⟨rfl, hb⟩
    have bb := hide hb
    have B7 := hide (B6.out.trans (bb.out.mono B6.out.size))
    clear B6
    have L7 := hide (L6.out.below bb.out)
    clear L6
    have M7 := hide (M6.out.below bb.out)
    clear M6
    clear bb
    clear hb
    go_wp2_with fail
    refine (C7.out _ L7.out).mono ?_
    rintro e v8 ⟨rfl, hb⟩
    have bb := hide hb
    have B8 := hide (B7.out.trans (bb.out.mono B7.out.size))
    clear B7
    have L8 := hide (L7.out.below bb.out)
    clear L7
    have M8 := hide (M7.out.below bb.out)
    clear M7
    clear bb
    clear hb
    clear C0 C1 C2 C3 C4 C5 C6 C7
    go_upto_if 123 with fail
    go_cut [] (fun wx => Below w.heap.size w wx)
    case first =>
      as_aux_lemma =>
        cases ok with
        | false =>
          go_wp2_with fail
          go_meet
          exact B8.out
        | true =>
          have hgg : GoodE l ∧ GoodE m := by
            have := HV.out
            unfold prtR at this
            split at this
            · rename_i h; exact h
            · simp at this
          have hpp : (prt l m : Int) = p := by
            have := HV.out
            unfold prtR at this
            rw [if_pos hgg] at this
            simp at this
            exact this
          obtain ⟨mv', hm1, hm2⟩ := matR_of hgg
          rw [HV2.out] at hm1
          cases hm1
          obtain ⟨nv', hn1, hn2⟩ := newR_of hgg
          rw [HV3.out] at hn1
          cases hn1
          have hpl := prt_le l m
          rw [HN.out, HK.out] at hpl
          obtain ⟨P, hP⟩ : ∃ P, P = prt l m := ⟨_, rfl⟩
          rw [← hP] at hpl hpp
          obtain rfl : p = (P : Int) := hpp.symm
          have hpr : prtR m l = ((P : Int), true) := by unfold prtR; rw [if_pos ⟨hgg.2, hgg.1⟩, prt_comm, ← hP]
          obtain ⟨mw, hw1, hw2⟩ := matR_of (⟨hgg.2, hgg.1⟩ : GoodE m ∧ GoodE l)
          obtain rfl : mw = mv := bool_iff7 (hw2.trans ((mat_comm m l).trans hm2.symm))
          obtain ⟨nw, hx1, hx2⟩ := newR_of (⟨hgg.2, hgg.1⟩ : GoodE m ∧ GoodE l)
          have hnn : nv = true → nw = false := fun h => by
            cases nw with
            | false => rfl
            | true => exact absurd (new_not l m (hn2.1 h) (hx2.1 rfl)) id
          have C1 := hide (fun (wx : World) (h1 : SlE wx aa l) (h2 : SlE wx ba m) => implPartAt_any ba aa m l k bc n ac wx HK.out h2 (by omega) HMT.out HN.out h1 (by omega) HLT.out _ true hpr)
          have C2 := hide (fun (wx : World) (h1 : SlE wx aa l) (h2 : SlE wx ba m) => implMatch_any ba aa m l k bc n ac wx HK.out h2 (by omega) HMT.out HN.out h1 (by omega) HLT.out mw true hw1)
          have C3 := hide (fun (wx : World) (h1 : SlE wx aa l) (h2 : SlE wx ba m) => implIsNewer_any ba aa m l k bc n ac wx HK.out h2 (by omega) HMT.out HN.out h1 (by omega) HLT.out nw true hx1)
          obtain ⟨d1, T1⟩ := slice_to aa n ac P hpl.1 hac ha0
          obtain ⟨d2, T2⟩ := slice_to ba k bc P hpl.2 hbc hb0
          have HTL : Hid ((l.take P).length = P) := by show (l.take P).length = P; have := HN.out; simp; omega
          have HTE : Hid (m.take P = l.take P) := (take_prt P (by omega)).symm
          have HST : Hid (mw = true → ∀ i, P ≤ i → i < n → i < k → (l.getD i eE).1 ≠ (m.getD i eE).1) := fun h i h1 h2 h3 => (hm2.1 h).2 i (by omega) (by rw [HN.out]; exact h2) (by rw [HK.out]; exact h3)
          have HNN := hide hnn
          clear hgg hm2 hn2 hP hpp hpr hw1 hw2 hx1 hx2 hnn
          go_wp2_with fail
          refine (C1.out _ L8.out M8.out).mono ?_
          rintro e v9 ⟨rfl, hb⟩
          have bb := hide hb
          have B9 := hide (B8.out.trans (bb.out.mono B8.out.size))
          clear B8
          have L9 := hide (L8.out.below bb.out)
          clear L8
          have M9 := hide (M8.out.below bb.out)
          clear M8
          clear bb
          clear hb
          go_wp2_with fail
          refine (C2.out _ L9.out M9.out).mono ?_
          rintro e v10 ⟨rfl, hb⟩
          have bb := hide hb
          have B10 := hide (B9.out.trans (bb.out.mono B9.out.size))
          clear B9
          have L10 := hide (L9.out.below bb.out)
          clear L9
          have M10 := hide (M9.out.below bb.out)
          clear M9
          clear bb
          clear hb
          go_wp2_with fail
          refine (C3.out _ L10.out M10.out).mono ?_
          rintro e v11 ⟨rfl, hb⟩
          have bb := hide hb
          have B11 := hide (B10.out.trans (bb.out.mono B10.out.size))
          clear B10
          have L11 := hide (L10.out.below bb.out)
          clear L10
          have M11 := hide (M10.out.below bb.out)
          clear M10
          clear bb
          clear hb
          have hLL := L11.out
          have hMM := M11.out
          have hBB := B11.out
          clear B11 L11 M11
          cases nv with
          | true =>
            have hnw := HNN.out rfl
            subst hnw
            go_wp2
            refine wp_region_held_drew (S := (fun wx => SlE wx aa l ∧ SlE wx ba m ∧ Below w.heap.size w wx)) (by kernel_rfl) ⟨hLL.below ((Below.refl _ _).drew), hMM.below ((Below.refl _ _).drew), hBB.drew⟩ (fun hHeld => ?_)
            refine wpAnyH_take (i := 0) (v := ?v1) rfl (by kernel_rfl) (by kernel_rfl) (by kernel_rfl) (fun _ _ _ h => h) (Or.inl ⟨by rfl, ?y1⟩) (by assumption) ?r1
            case y1 => (intro w hSw; (try dsimp only at hSw); go_simp; try (with_reducible rfl))
            simp only [List.getElem_toArray, List.getElem_cons_zero, Act.put, List.setIfInBounds_toArray, List.set_cons_zero, List.set_cons_succ]
            refine wpAnyH_take (i := 1) (v := ?v2) rfl (by kernel_rfl) (by kernel_rfl) (by kernel_rfl) (fun _ _ _ h => h) (Or.inl ⟨by rfl, ?y2⟩) (by assumption) ?r2
            case y2 => (intro w hSw; (try dsimp only at hSw); go_simp; try (with_reducible rfl))
            simp only [List.getElem_toArray, List.getElem_cons_succ, List.getElem_cons_zero, Act.put, List.setIfInBounds_toArray, List.set_cons_zero, List.set_cons_succ]
            refine wpAnyH_take (i := 2) (v := ?v3) rfl (by kernel_rfl) (by kernel_rfl) (by kernel_rfl) (fun _ _ _ h => h) (Or.inl ⟨by rfl, ?y3⟩) (by assumption) ?r3
            case y3 => (intro w hSw; (try dsimp only at hSw); go_simp; try (with_reducible rfl))
            simp only [List.getElem_toArray, List.getElem_cons_succ, List.getElem_cons_zero, Act.put, List.setIfInBounds_toArray, List.set_cons_zero, List.set_cons_succ]
            refine wpAnyH_take (i := 3) (v := ?v4) rfl (by kernel_rfl) (by kernel_rfl) (by kernel_rfl) (fun _ _ _ h => h) (Or.inl ⟨by rfl, ?y4⟩) (by assumption) ?r4
            case y4 => (intro w hSw; (try dsimp only at hSw); go_simp; try (with_reducible rfl))
            simp only [List.getElem_toArray, List.getElem_cons_succ, List.getElem_cons_zero, Act.put, List.setIfInBounds_toArray, List.set_cons_zero, List.set_cons_succ]
            refine wpAnyH_take (i := 4) (v := ?v5) rfl (by kernel_rfl) (by kernel_rfl) (by kernel_rfl) (fun _ _ _ h => h) (Or.inl ⟨by rfl, ?y5⟩) (by assumption) ?r5
            case y5 => (intro w hSw; (try dsimp only at hSw); go_simp; try (with_reducible rfl))
            simp only [List.getElem_toArray, List.getElem_cons_succ, List.getElem_cons_zero, Act.put, List.setIfInBounds_toArray, List.set_cons_zero, List.set_cons_succ]
            refine wpAnyH_take (i := 5) (v := ?v6) rfl (by kernel_rfl) (by kernel_rfl) (by kernel_rfl) (fun _ _ _ h => h) (Or.inl ⟨by rfl, ?y6⟩) (by assumption) ?r6
            case y6 => (intro w hSw; (try dsimp only at hSw); go_simp; try (with_reducible rfl))
            simp only [List.getElem_toArray, List.getElem_cons_succ, List.getElem_cons_zero, Act.put, List.setIfInBounds_toArray, List.set_cons_zero, List.set_cons_succ]
            refine wpAnyH_take (i := 6) (v := ?v7) rfl (by kernel_rfl) (by kernel_rfl) (by kernel_rfl) (fun _ _ _ h => h) (Or.inl ⟨by rfl, ?y7⟩) (by assumption) ?r7
            case y7 => (intro w hSw; (try dsimp only at hSw); go_simp; try (with_reducible rfl))
            simp only [List.getElem_toArray, List.getElem_cons_succ, List.getElem_cons_zero, Act.put, List.setIfInBounds_toArray, List.set_cons_zero, List.set_cons_succ]
            refine wpAnyH_take (i := 7) (v := ?v8) rfl (by kernel_rfl) (by kernel_rfl) (by kernel_rfl) (fun _ _ _ h => h) (Or.inl ⟨by rfl, ?y8⟩) (by assumption) ?r8
            case y8 => (intro w hSw; (try dsimp only at hSw); go_simp; try (with_reducible rfl))
            simp only [List.getElem_toArray, List.getElem_cons_succ, List.getElem_cons_zero, Act.put, List.setIfInBounds_toArray, List.set_cons_zero, List.set_cons_succ]
            refine wpAnyH_take (i := 8) (v := ?v9) rfl (by kernel_rfl) (by kernel_rfl) (by kernel_rfl) (fun _ _ _ h => h) (Or.inl ⟨by rfl, ?y9⟩) (by assumption) ?r9
            case y9 => (intro w hSw; (try dsimp only at hSw); go_simp; try (with_reducible rfl))
            simp only [List.getElem_toArray, List.getElem_cons_succ, List.getElem_cons_zero, Act.put, List.setIfInBounds_toArray, List.set_cons_zero, List.set_cons_succ]
            refine wpAnyH_take (i := 9) (v := ?v10) rfl (by kernel_rfl) (by kernel_rfl) (by kernel_rfl) (fun _ _ _ h => h) (Or.inl ⟨by rfl, ?y10⟩) (by assumption) ?r10
            case y10 => (intro w hSw; (try dsimp only at hSw); go_simp; try (with_reducible rfl))
            simp only [List.getElem_toArray, List.getElem_cons_succ, List.getElem_cons_zero, Act.put, List.setIfInBounds_toArray, List.set_cons_zero, List.set_cons_succ]
            refine wpAnyH_take (i := 10) (v := ?v11) rfl (by kernel_rfl) (by kernel_rfl) (by kernel_rfl) (fun _ _ _ h => h) (Or.inl ⟨by rfl, ?y11⟩) (by assumption) ?r11
            case y11 => (intro w hSw; (try dsimp only at hSw); go_simp; try (with_reducible rfl))
            simp only [List.getElem_toArray, List.getElem_cons_succ, List.getElem_cons_zero, Act.put, List.setIfInBounds_toArray, List.set_cons_zero, List.set_cons_succ]
            refine wpAnyH_take (i := 11) (v := ?v12) rfl (by kernel_rfl) (by kernel_rfl) (by kernel_rfl) (fun _ _ _ h => h) (Or.inl ⟨by rfl, ?y12⟩) (by assumption) ?r12
            case y12 => (intro w hSw; (try dsimp only at hSw); go_simp; try (with_reducible rfl))
            simp only [List.getElem_toArray, List.getElem_cons_succ, List.getElem_cons_zero, Act.put, List.setIfInBounds_toArray, List.set_cons_zero, List.set_cons_succ]
            refine wpAnyH_take (i := 12) (v := ?v13) rfl (by kernel_rfl) (by kernel_rfl) (by kernel_rfl) (fun _ _ _ h => h) (Or.inl ⟨by rfl, ?y13⟩) (by assumption) ?r13
            case y13 => (intro w hSw; (try dsimp only at hSw); go_simp; try (with_reducible rfl))
            simp only [List.getElem_toArray, List.getElem_cons_succ, List.getElem_cons_zero, Act.put, List.setIfInBounds_toArray, List.set_cons_zero, List.set_cons_succ]
            refine wpAnyH_take (i := 13) (v := ?v14) rfl (by kernel_rfl) (by kernel_rfl) (by kernel_rfl) (fun _ _ _ h => h) (Or.inl ⟨by rfl, ?y14⟩) (by assumption) ?r14
            case y14 => (intro w hSw; (try dsimp only at hSw); go_simp; try (with_reducible rfl))
            simp only [List.getElem_toArray, List.getElem_cons_succ, List.getElem_cons_zero, Act.put, List.setIfInBounds_toArray, List.set_cons_zero, List.set_cons_succ]
            refine wpAnyH_take (i := 14) (v := ?v15) rfl (by kernel_rfl) (by kernel_rfl) (by kernel_rfl) (fun _ _ _ h => h) (Or.inl ⟨by rfl, ?y15⟩) (by assumption) ?r15
            case y15 => (intro w hSw; (try dsimp only at hSw); go_simp; try (with_reducible rfl))
            simp only [List.getElem_toArray, List.getElem_cons_succ, List.getElem_cons_zero, Act.put, List.setIfInBounds_toArray, List.set_cons_zero, List.set_cons_succ]
            refine wpAnyH_take (i := 15) (v := ?v16) rfl (by kernel_rfl) (by kernel_rfl) (by kernel_rfl) (fun _ _ _ h => h) (Or.inl ⟨by rfl, ?y16⟩) (by assumption) ?r16
            case y16 => (intro w hSw; (try dsimp only at hSw); go_simp; try (with_reducible rfl))
            simp only [List.getElem_toArray, List.getElem_cons_succ, List.getElem_cons_zero, Act.put, List.setIfInBounds_toArray, List.set_cons_zero, List.set_cons_succ]
            refine wpAnyH_take (i := 16) (v := ?v17) rfl (by kernel_rfl) (by kernel_rfl) (by kernel_rfl) (fun _ _ _ h => h) (Or.inl ⟨by rfl, ?y17⟩) (by assumption) ?r17
            case y17 => (intro w hSw; (try dsimp only at hSw); go_simp; try (with_reducible rfl))
            simp only [List.getElem_toArray, List.getElem_cons_succ, List.getElem_cons_zero, Act.put, List.setIfInBounds_toArray, List.set_cons_zero, List.set_cons_succ]
            refine wpAnyH_take (i := 17) (v := ?v18) rfl (by kernel_rfl) (by kernel_rfl) (by kernel_rfl) (fun _ _ _ h => h) (Or.inl ⟨by rfl, ?y18⟩) (by assumption) ?r18
            case y18 => (intro w hSw; (try dsimp only at hSw); go_simp; try (with_reducible rfl))
            simp only [List.getElem_toArray, List.getElem_cons_succ, List.getElem_cons_zero, Act.put, List.setIfInBounds_toArray, List.set_cons_zero, List.set_cons_succ]
            refine wpAnyH_take (i := 18) (v := ?v19) rfl (by kernel_rfl) (by kernel_rfl) (by kernel_rfl) (fun _ _ _ h => h) (Or.inl ⟨by rfl, ?y19⟩) (by assumption) ?r19
            case y19 => (intro w hSw; (try dsimp only at hSw); go_simp; try (with_reducible rfl))
            simp only [List.getElem_toArray, List.getElem_cons_succ, List.getElem_cons_zero, Act.put, List.setIfInBounds_toArray, List.set_cons_zero, List.set_cons_succ]
            refine wpAnyH_take (i := 19) (v := ?v20) rfl (by kernel_rfl) (by kernel_rfl) (by kernel_rfl) (fun _ _ _ h => h) (Or.inl ⟨by rfl, ?y20⟩) (by assumption) ?r20
            case y20 => (intro w hSw; (try dsimp only at hSw); go_simp; try (with_reducible rfl))
            simp only [List.getElem_toArray, List.getElem_cons_succ, List.getElem_cons_zero, Act.put, List.setIfInBounds_toArray, List.set_cons_zero, List.set_cons_succ]
            refine wpAnyH_take (i := 20) (v := ?v21) rfl (by kernel_rfl) (by kernel_rfl) (by kernel_rfl) (fun _ _ _ h => h) (Or.inl ⟨by rfl, ?y21⟩) (by assumption) ?r21
            case y21 => (intro w hSw; (try dsimp only at hSw); go_simp; try (with_reducible rfl))
            simp only [List.getElem_toArray, List.getElem_cons_succ, List.getElem_cons_zero, Act.put, List.setIfInBounds_toArray, List.set_cons_zero, List.set_cons_succ]
            refine wpAnyH_take (i := 21) (v := ?v22) rfl (by kernel_rfl) (by kernel_rfl) (by kernel_rfl) (fun _ _ _ h => h) (Or.inl ⟨by rfl, ?y22⟩) (by assumption) ?r22
            case y22 => (intro w hSw; (try dsimp only at hSw); go_simp; try (with_reducible rfl))
            simp only [List.getElem_toArray, List.getElem_cons_succ, List.getElem_cons_zero, Act.put, List.setIfInBounds_toArray, List.set_cons_zero, List.set_cons_succ]
            refine wpAnyH_take (i := 22) (v := ?v23) rfl (by kernel_rfl) (by kernel_rfl) (by kernel_rfl) (fun _ _ _ h => h) (Or.inl ⟨by rfl, ?y23⟩) (by assumption) ?r23
            case y23 => (intro w hSw; (try dsimp only at hSw); go_simp; try (with_reducible rfl))
            simp only [List.getElem_toArray, List.getElem_cons_succ, List.getElem_cons_zero, Act.put, List.setIfInBounds_toArray, List.set_cons_zero, List.set_cons_succ]
            refine wpAnyH_ready (rs := [23]) (by kernel_rfl) (by simp) ?_
            refine AllReadyH.cons rfl (fun K hK => ?_) AllReadyH.nil
            simp only [List.getElem_toArray, List.getElem_cons_succ, List.getElem_cons_zero]
            go_simp
            go_at_call 14
            refine (sameEntries_same _ _ (l.take P) P _ _ _ HTL.out (slE_take hHeld.1 P) (HTE.out ▸ slE_take hHeld.2.1 P) (by omega)).mono ?_
            rintro e wz ⟨rfl, hbz⟩
            dsimp only
            refine hK.out _ _ ?_ (fun hHeld => ?_)
            · exact ⟨hHeld.1.below hbz, hHeld.2.1.below hbz, hHeld.2.2.trans (hbz.mono hHeld.2.2.size)⟩
            clear hK K
            try simp only [Act.put, List.setIfInBounds_toArray, List.set_cons_zero, List.set_cons_succ]
            refine wpAnyH_take (i := 24) (v := ?v24) rfl (by kernel_rfl) (by kernel_rfl) (by kernel_rfl) (fun _ _ _ h => h) (Or.inl ⟨by rfl, ?y24⟩) (by assumption) ?r24
            case y24 => (intro w hSw; (try dsimp only at hSw); go_simp; try (with_reducible rfl))
            simp only [List.getElem_toArray, List.getElem_cons_succ, List.getElem_cons_zero, Act.put, List.setIfInBounds_toArray, List.set_cons_zero, List.set_cons_succ]
            refine wpAnyH_take (i := 25) (v := ?v25) rfl (by kernel_rfl) (by kernel_rfl) (by kernel_rfl) (fun _ _ _ h => h) (Or.inl ⟨by rfl, ?y25⟩) (by assumption) ?r25
            case y25 => (intro w hSw; (try dsimp only at hSw); go_simp; try (with_reducible rfl))
            simp only [List.getElem_toArray, List.getElem_cons_succ, List.getElem_cons_zero, Act.put, List.setIfInBounds_toArray, List.set_cons_zero, List.set_cons_succ]
            refine wpAnyH_take (i := 26) (v := ?v26) rfl (by kernel_rfl) (by kernel_rfl) (by kernel_rfl) (fun _ _ _ h => h) (Or.inl ⟨by rfl, ?y26⟩) (by assumption) ?r26
            case y26 => (intro w hSw; (try dsimp only at hSw); go_simp; try (with_reducible rfl))
            simp only [List.getElem_toArray, List.getElem_cons_succ, List.getElem_cons_zero, Act.put, List.setIfInBounds_toArray, List.set_cons_zero, List.set_cons_succ]
            refine wpAnyH_take (i := 27) (v := ?v27) rfl (by kernel_rfl) (by kernel_rfl) (by kernel_rfl) (fun _ _ _ h => h) (Or.inl ⟨by rfl, ?y27⟩) (by assumption) ?r27
            case y27 => (intro w hSw; (try dsimp only at hSw); go_simp; try (with_reducible rfl))
            simp only [List.getElem_toArray, List.getElem_cons_succ, List.getElem_cons_zero, Act.put, List.setIfInBounds_toArray, List.set_cons_zero, List.set_cons_succ]
            refine wpAnyH_take (i := 28) (v := ?v28) rfl (by kernel_rfl) (by kernel_rfl) (by kernel_rfl) (fun _ _ _ h => h) (Or.inl ⟨by rfl, ?y28⟩) (by assumption) ?r28
            case y28 => (intro w hSw; (try dsimp only at hSw); go_simp; try (with_reducible rfl))
            simp only [List.getElem_toArray, List.getElem_cons_succ, List.getElem_cons_zero, Act.put, List.setIfInBounds_toArray, List.set_cons_zero, List.set_cons_succ]
            refine wpAnyH_take (i := 29) (v := ?v29) rfl (by kernel_rfl) (by kernel_rfl) (by kernel_rfl) (fun _ _ _ h => h) (Or.inl ⟨by rfl, ?y29⟩) (by assumption) ?r29
            case y29 => (intro w hSw; (try dsimp only at hSw); go_simp; try (with_reducible rfl))
            simp only [List.getElem_toArray, List.getElem_cons_succ, List.getElem_cons_zero, Act.put, List.setIfInBounds_toArray, List.set_cons_zero, List.set_cons_succ]
            refine wpAnyH_take (i := 30) (v := ?v30) rfl (by kernel_rfl) (by kernel_rfl) (by kernel_rfl) (fun _ _ _ h => h) (Or.inl ⟨by rfl, ?y30⟩) (by assumption) ?r30
            case y30 => (intro w hSw; (try dsimp only at hSw); go_simp; try (with_reducible rfl))
            simp only [List.getElem_toArray, List.getElem_cons_succ, List.getElem_cons_zero, Act.put, List.setIfInBounds_toArray, List.set_cons_zero, List.set_cons_succ]
            refine wpAnyH_take (i := 31) (v := ?v31) rfl (by kernel_rfl) (by kernel_rfl) (by kernel_rfl) (fun _ _ _ h => h) (Or.inl ⟨by rfl, ?y31⟩) (by assumption) ?r31
            case y31 => (intro w hSw; (try dsimp only at hSw); go_simp; try (with_reducible rfl))
            simp only [List.getElem_toArray, List.getElem_cons_succ, List.getElem_cons_zero, Act.put, List.setIfInBounds_toArray, List.set_cons_zero, List.set_cons_succ]
            refine wpAnyH_take (i := 32) (v := ?v32) rfl (by kernel_rfl) (by kernel_rfl) (by kernel_rfl) (fun _ _ _ h => h) (Or.inl ⟨by rfl, ?y32⟩) (by assumption) ?r32
            case y32 => (intro w hSw; (try dsimp only at hSw); go_simp; try (with_reducible rfl))
            simp only [List.getElem_toArray, List.getElem_cons_succ, List.getElem_cons_zero, Act.put, List.setIfInBounds_toArray, List.set_cons_zero, List.set_cons_succ]
            refine wpAnyH_take (i := 33) (v := ?v33) rfl (by kernel_rfl) (by kernel_rfl) (by kernel_rfl) (fun _ _ _ h => h) (Or.inl ⟨by rfl, ?y33⟩) (by assumption) ?r33
            case y33 => (intro w hSw; (try dsimp only at hSw); go_simp; try (with_reducible rfl))
            simp only [List.getElem_toArray, List.getElem_cons_succ, List.getElem_cons_zero, Act.put, List.setIfInBounds_toArray, List.set_cons_zero, List.set_cons_succ]
            refine wpAnyH_take (i := 34) (v := ?v34) rfl (by kernel_rfl) (by kernel_rfl) (by kernel_rfl) (fun _ _ _ h => h) (Or.inl ⟨by rfl, ?y34⟩) (by assumption) ?r34
            case y34 => (intro w hSw; (try dsimp only at hSw); go_simp; try (with_reducible rfl))
            simp only [List.getElem_toArray, List.getElem_cons_succ, List.getElem_cons_zero, Act.put, List.setIfInBounds_toArray, List.set_cons_zero, List.set_cons_succ]
            refine wpAnyH_take (i := 35) (v := ?v35) rfl (by kernel_rfl) (by kernel_rfl) (by kernel_rfl) (fun _ _ _ h => h) (Or.inl ⟨by rfl, ?y35⟩) (by assumption) ?r35
            case y35 => (intro w hSw; (try dsimp only at hSw); go_simp; try (with_reducible rfl))
            simp only [List.getElem_toArray, List.getElem_cons_succ, List.getElem_cons_zero, Act.put, List.setIfInBounds_toArray, List.set_cons_zero, List.set_cons_succ]
            refine wpAnyH_done (by kernel_rfl) ?_ _
            obtain ⟨hL2, hM2, hB2⟩ := hHeld
            clear hLL hMM hBB
            cases mw with
            | false =>
              go_wp2_with fail
              go_meet
              exact hB2
            | true =>
              have HL2 := hide hL2
              have HM2 := hide hM2
              have HB2 := hide hB2
              have HST2 := hide (HST.out rfl)
              clear hL2 hM2 hB2
              have hP1 := hpl.1
              have hP2 := hpl.2
              go_wp2
              go_loopw [25] (fun i wr => ∃ j : Nat, j ≤ n ∧ j ≤ k ∧ i = .int .i64 j ∧ Hid (P ≤ j) ∧ SlE wr aa l ∧ SlE wr ba m ∧ Below w.heap.size w wr) (fun i _ => n - (intOf i).toNat)
              case atStart => exact ⟨P, hP1, hP2, rfl, Nat.le_refl _, HL2.out, HM2.out, HB2.out⟩
              case round =>
                obtain ⟨j, hjn, hjk, rfl, HPJ, hls, hms, hbel⟩ := hrel
                by_cases h1 : j < n
                · have h1I : (j : Int) < (n : Int) := by omega
                  by_cases h2 : j < k
                  · have h2I : (j : Int) < (k : Int) := by omega
                    have hne := HST2.out j HPJ.out h1 h2
                    obtain ⟨b1, o1, e1, g1, _⟩ := hls j (by rw [HN.out]; exact h1)
                    obtain ⟨b2, o2, e2, g3, _⟩ := hms j (by rw [HK.out]; exact h2)
                    subst e1
                    subst e2
                    have hj0 : (0 : Int) ≤ (j : Int) := by omega
                    obtain ⟨x, hx⟩ : ∃ x, x = (l.getD j eE).1 := ⟨_, rfl⟩
                    obtain ⟨u, hu⟩ : ∃ u, u = (m.getD j eE).1 := ⟨_, rfl⟩
                    rw [← hx] at g1 hne
                    rw [← hu] at g3 hne
                    have f1 : (x == u) = false := by simpa using hne
                    have LL := hide hls
                    have MM := hide hms
                    have BB := hide hbel
                    clear hne hx hu hls hms hbel
                    go_wp2
                    go_quiet (fail)
                    go_wp2
                    go_roundw
                    case rel => exact ⟨j + 1, by omega, by omega, by go_num, by show P ≤ j + 1; have := HPJ.out; omega, LL.out.below (below_dN (Below.refl _ _) _), MM.out.below (below_dN (Below.refl _ _) _), below_dN BB.out _⟩
                    case measure => simp [intOf]; omega
                  · have h2I : ¬ (j : Int) < (k : Int) := by omega
                    go_wp2_with fail
                    go_meet
                    exact hbel
                · have h1I : ¬ (j : Int) < (n : Int) := by omega
                  go_wp2_with fail
                  go_meet
                  exact hbel
          | false =>
            go_wp2
            refine wp_region_held_drew (S := (fun wx => SlE wx aa l ∧ SlE wx ba m ∧ Below w.heap.size w wx)) (by kernel_rfl) ⟨hLL.below ((Below.refl _ _).drew), hMM.below ((Below.refl _ _).drew), hBB.drew⟩ (fun hHeld => ?_)
            refine wpAnyH_take (i := 0) (v := ?v36) rfl (by kernel_rfl) (by kernel_rfl) (by kernel_rfl) (fun _ _ _ h => h) (Or.inl ⟨by rfl, ?y36⟩) (by assumption) ?r36
            case y36 => (intro w hSw; (try dsimp only at hSw); go_simp; try (with_reducible rfl))
            simp only [List.getElem_toArray, List.getElem_cons_zero, Act.put, List.setIfInBounds_toArray, List.set_cons_zero, List.set_cons_succ]
            refine wpAnyH_take (i := 1) (v := ?v37) rfl (by kernel_rfl) (by kernel_rfl) (by kernel_rfl) (fun _ _ _ h => h) (Or.inl ⟨by rfl, ?y37⟩) (by assumption) ?r37
            case y37 => (intro w hSw; (try dsimp only at hSw); go_simp; try (with_reducible rfl))
            simp only [List.getElem_toArray, List.getElem_cons_succ, List.getElem_cons_zero, Act.put, List.setIfInBounds_toArray, List.set_cons_zero, List.set_cons_succ]
            refine wpAnyH_take (i := 2) (v := ?v38) rfl (by kernel_rfl) (by kernel_rfl) (by kernel_rfl) (fun _ _ _ h => h) (Or.inl ⟨by rfl, ?y38⟩) (by assumption) ?r38
            case y38 => (intro w hSw; (try dsimp only at hSw); go_simp; try (with_reducible rfl))
            simp only [List.getElem_toArray, List.getElem_cons_succ, List.getElem_cons_zero, Act.put, List.setIfInBounds_toArray, List.set_cons_zero, List.set_cons_succ]
            refine wpAnyH_take (i := 3) (v := ?v39) rfl (by kernel_rfl) (by kernel_rfl) (by kernel_rfl) (fun _ _ _ h => h) (Or.inl ⟨by rfl, ?y39⟩) (by assumption) ?r39
            case y39 => (intro w hSw; (try dsimp only at hSw); go_simp; try (with_reducible rfl))
            simp only [List.getElem_toArray, List.getElem_cons_succ, List.getElem_cons_zero, Act.put, List.setIfInBounds_toArray, List.set_cons_zero, List.set_cons_succ]
            refine wpAnyH_take (i := 4) (v := ?v40) rfl (by kernel_rfl) (by kernel_rfl) (by kernel_rfl) (fun _ _ _ h => h) (Or.inl ⟨by rfl, ?y40⟩) (by assumption) ?r40
            case y40 => (intro w hSw; (try dsimp only at hSw); go_simp; try (with_reducible rfl))
            simp only [List.getElem_toArray, List.getElem_cons_succ, List.getElem_cons_zero, Act.put, List.setIfInBounds_toArray, List.set_cons_zero, List.set_cons_succ]
            refine wpAnyH_take (i := 5) (v := ?v41) rfl (by kernel_rfl) (by kernel_rfl) (by kernel_rfl) (fun _ _ _ h => h) (Or.inl ⟨by rfl, ?y41⟩) (by assumption) ?r41
            case y41 => (intro w hSw; (try dsimp only at hSw); go_simp; try (with_reducible rfl))
            simp only [List.getElem_toArray, List.getElem_cons_succ, List.getElem_cons_zero, Act.put, List.setIfInBounds_toArray, List.set_cons_zero, List.set_cons_succ]
            refine wpAnyH_take (i := 6) (v := ?v42) rfl (by kernel_rfl) (by kernel_rfl) (by kernel_rfl) (fun _ _ _ h => h) (Or.inl ⟨by rfl, ?y42⟩) (by assumption) ?r42
            case y42 => (intro w hSw; (try dsimp only at hSw); go_simp; try (with_reducible rfl))
            simp only [List.getElem_toArray, List.getElem_cons_succ, List.getElem_cons_zero, Act.put, List.setIfInBounds_toArray, List.set_cons_zero, List.set_cons_succ]
            refine wpAnyH_take (i := 7) (v := ?v43) rfl (by kernel_rfl) (by kernel_rfl) (by kernel_rfl) (fun _ _ _ h => h) (Or.inl ⟨by rfl, ?y43⟩) (by assumption) ?r43
            case y43 => (intro w hSw; (try dsimp only at hSw); go_simp; try (with_reducible rfl))
            simp only [List.getElem_toArray, List.getElem_cons_succ, List.getElem_cons_zero, Act.put, List.setIfInBounds_toArray, List.set_cons_zero, List.set_cons_succ]
            refine wpAnyH_take (i := 8) (v := ?v44) rfl (by kernel_rfl) (by kernel_rfl) (by kernel_rfl) (fun _ _ _ h => h) (Or.inl ⟨by rfl, ?y44⟩) (by assumption) ?r44
            case y44 => (intro w hSw; (try dsimp only at hSw); go_simp; try (with_reducible rfl))
            simp only [List.getElem_toArray, List.getElem_cons_succ, List.getElem_cons_zero, Act.put, List.setIfInBounds_toArray, List.set_cons_zero, List.set_cons_succ]
            refine wpAnyH_take (i := 9) (v := ?v45) rfl (by kernel_rfl) (by kernel_rfl) (by kernel_rfl) (fun _ _ _ h => h) (Or.inl ⟨by rfl, ?y45⟩) (by assumption) ?r45
            case y45 => (intro w hSw; (try dsimp only at hSw); go_simp; try (with_reducible rfl))
            simp only [List.getElem_toArray, List.getElem_cons_succ, List.getElem_cons_zero, Act.put, List.setIfInBounds_toArray, List.set_cons_zero, List.set_cons_succ]
            refine wpAnyH_take (i := 10) (v := ?v46) rfl (by kernel_rfl) (by kernel_rfl) (by kernel_rfl) (fun _ _ _ h => h) (Or.inl ⟨by rfl, ?y46⟩) (by assumption) ?r46
            case y46 => (intro w hSw; (try dsimp only at hSw); go_simp; try (with_reducible rfl))
            simp only [List.getElem_toArray, List.getElem_cons_succ, List.getElem_cons_zero, Act.put, List.setIfInBounds_toArray, List.set_cons_zero, List.set_cons_succ]
            refine wpAnyH_take (i := 11) (v := ?v47) rfl (by kernel_rfl) (by kernel_rfl) (by kernel_rfl) (fun _ _ _ h => h) (Or.inl ⟨by rfl, ?y47⟩) (by assumption) ?r47
            case y47 => (intro w hSw; (try dsimp only at hSw); go_simp; try (with_reducible rfl))
            simp only [List.getElem_toArray, List.getElem_cons_succ, List.getElem_cons_zero, Act.put, List.setIfInBounds_toArray, List.set_cons_zero, List.set_cons_succ]
            refine wpAnyH_take (i := 12) (v := ?v48) rfl (by kernel_rfl) (by kernel_rfl) (by kernel_rfl) (fun _ _ _ h => h) (Or.inl ⟨by rfl, ?y48⟩) (by assumption) ?r48
            case y48 => (intro w hSw; (try dsimp only at hSw); go_simp; try (with_reducible rfl))
            simp only [List.getElem_toArray, List.getElem_cons_succ, List.getElem_cons_zero, Act.put, List.setIfInBounds_toArray, List.set_cons_zero, List.set_cons_succ]
            refine wpAnyH_take (i := 13) (v := ?v49) rfl (by kernel_rfl) (by kernel_rfl) (by kernel_rfl) (fun _ _ _ h => h) (Or.inl ⟨by rfl, ?y49⟩) (by assumption) ?r49
            case y49 => (intro w hSw; (try dsimp only at hSw); go_simp; try (with_reducible rfl))
            simp only [List.getElem_toArray, List.getElem_cons_succ, List.getElem_cons_zero, Act.put, List.setIfInBounds_toArray, List.set_cons_zero, List.set_cons_succ]
            refine wpAnyH_take (i := 14) (v := ?v50) rfl (by kernel_rfl) (by kernel_rfl) (by kernel_rfl) (fun _ _ _ h => h) (Or.inl ⟨by rfl, ?y50⟩) (by assumption) ?r50
            case y50 => (intro w hSw; (try dsimp only at hSw); go_simp; try (with_reducible rfl))
            simp only [List.getElem_toArray, List.getElem_cons_succ, List.getElem_cons_zero, Act.put, List.setIfInBounds_toArray, List.set_cons_zero, List.set_cons_succ]
            refine wpAnyH_take (i := 15) (v := ?v51) rfl (by kernel_rfl) (by kernel_rfl) (by kernel_rfl) (fun _ _ _ h => h) (Or.inl ⟨by rfl, ?y51⟩) (by assumption) ?r51
            case y51 => (intro w hSw; (try dsimp only at hSw); go_simp; try (with_reducible rfl))
            simp only [List.getElem_toArray, List.getElem_cons_succ, List.getElem_cons_zero, Act.put, List.setIfInBounds_toArray, List.set_cons_zero, List.set_cons_succ]
            refine wpAnyH_take (i := 16) (v := ?v52) rfl (by kernel_rfl) (by kernel_rfl) (by kernel_rfl) (fun _ _ _ h => h) (Or.inl ⟨by rfl, ?y52⟩) (by assumption) ?r52
            case y52 => (intro w hSw; (try dsimp only at hSw); go_simp; try (with_reducible rfl))
            simp only [List.getElem_toArray, List.getElem_cons_succ, List.getElem_cons_zero, Act.put, List.setIfInBounds_toArray, List.set_cons_zero, List.set_cons_succ]
            refine wpAnyH_take (i := 17) (v := ?v53) rfl (by kernel_rfl) (by kernel_rfl) (by kernel_rfl) (fun _ _ _ h => h) (Or.inl ⟨by rfl, ?y53⟩) (by assumption) ?r53
            case y53 => (intro w hSw; (try dsimp only at hSw); go_simp; try (with_reducible rfl))
            simp only [List.getElem_toArray, List.getElem_cons_succ, List.getElem_cons_zero, Act.put, List.setIfInBounds_toArray, List.set_cons_zero, List.set_cons_succ]
            refine wpAnyH_take (i := 18) (v := ?v54) rfl (by kernel_rfl) (by kernel_rfl) (by kernel_rfl) (fun _ _ _ h => h) (Or.inl ⟨by rfl, ?y54⟩) (by assumption) ?r54
            case y54 => (intro w hSw; (try dsimp only at hSw); go_simp; try (with_reducible rfl))
            simp only [List.getElem_toArray, List.getElem_cons_succ, List.getElem_cons_zero, Act.put, List.setIfInBounds_toArray, List.set_cons_zero, List.set_cons_succ]
            refine wpAnyH_take (i := 19) (v := ?v55) rfl (by kernel_rfl) (by kernel_rfl) (by kernel_rfl) (fun _ _ _ h => h) (Or.inl ⟨by rfl, ?y55⟩) (by assumption) ?r55
            case y55 => (intro w hSw; (try dsimp only at hSw); go_simp; try (with_reducible rfl))
            simp only [List.getElem_toArray, List.getElem_cons_succ, List.getElem_cons_zero, Act.put, List.setIfInBounds_toArray, List.set_cons_zero, List.set_cons_succ]
            refine wpAnyH_take (i := 20) (v := ?v56) rfl (by kernel_rfl) (by kernel_rfl) (by kernel_rfl) (fun _ _ _ h => h) (Or.inl ⟨by rfl, ?y56⟩) (by assumption) ?r56
            case y56 => (intro w hSw; (try dsimp only at hSw); go_simp; try (with_reducible rfl))
            simp only [List.getElem_toArray, List.getElem_cons_succ, List.getElem_cons_zero, Act.put, List.setIfInBounds_toArray, List.set_cons_zero, List.set_cons_succ]
            refine wpAnyH_take (i := 21) (v := ?v57) rfl (by kernel_rfl) (by kernel_rfl) (by kernel_rfl) (fun _ _ _ h => h) (Or.inl ⟨by rfl, ?y57⟩) (by assumption) ?r57
            case y57 => (intro w hSw; (try dsimp only at hSw); go_simp; try (with_reducible rfl))
            simp only [List.getElem_toArray, List.getElem_cons_succ, List.getElem_cons_zero, Act.put, List.setIfInBounds_toArray, List.set_cons_zero, List.set_cons_succ]
            refine wpAnyH_take (i := 22) (v := ?v58) rfl (by kernel_rfl) (by kernel_rfl) (by kernel_rfl) (fun _ _ _ h => h) (Or.inl ⟨by rfl, ?y58⟩) (by assumption) ?r58
            case y58 => (intro w hSw; (try dsimp only at hSw); go_simp; try (with_reducible rfl))
            simp only [List.getElem_toArray, List.getElem_cons_succ, List.getElem_cons_zero, Act.put, List.setIfInBounds_toArray, List.set_cons_zero, List.set_cons_succ]
            refine wpAnyH_ready (rs := [23]) (by kernel_rfl) (by simp) ?_
            refine AllReadyH.cons rfl (fun K hK => ?_) AllReadyH.nil
            simp only [List.getElem_toArray, List.getElem_cons_succ, List.getElem_cons_zero]
            go_simp
            go_at_call 14
            refine (sameEntries_same _ _ (l.take P) P _ _ _ HTL.out (slE_take hHeld.1 P) (HTE.out ▸ slE_take hHeld.2.1 P) (by omega)).mono ?_
            rintro e wz ⟨rfl, hbz⟩
            dsimp only
            refine hK.out _ _ ?_ (fun hHeld => ?_)
            · exact ⟨hHeld.1.below hbz, hHeld.2.1.below hbz, hHeld.2.2.trans (hbz.mono hHeld.2.2.size)⟩
            clear hK K
            try simp only [Act.put, List.setIfInBounds_toArray, List.set_cons_zero, List.set_cons_succ]
            refine wpAnyH_take (i := 24) (v := ?v59) rfl (by kernel_rfl) (by kernel_rfl) (by kernel_rfl) (fun _ _ _ h => h) (Or.inl ⟨by rfl, ?y59⟩) (by assumption) ?r59
            case y59 => (intro w hSw; (try dsimp only at hSw); go_simp; try (with_reducible rfl))
            simp only [List.getElem_toArray, List.getElem_cons_succ, List.getElem_cons_zero, Act.put, List.setIfInBounds_toArray, List.set_cons_zero, List.set_cons_succ]
            refine wpAnyH_take (i := 25) (v := ?v60) rfl (by kernel_rfl) (by kernel_rfl) (by kernel_rfl) (fun _ _ _ h => h) (Or.inl ⟨by rfl, ?y60⟩) (by assumption) ?r60
            case y60 => (intro w hSw; (try dsimp only at hSw); go_simp; try (with_reducible rfl))
            simp only [List.getElem_toArray, List.getElem_cons_succ, List.getElem_cons_zero, Act.put, List.setIfInBounds_toArray, List.set_cons_zero, List.set_cons_succ]
            refine wpAnyH_take (i := 26) (v := ?v61) rfl (by kernel_rfl) (by kernel_rfl) (by kernel_rfl) (fun _ _ _ h => h) (Or.inl ⟨by rfl, ?y61⟩) (by assumption) ?r61
            case y61 => (intro w hSw; (try dsimp only at hSw); go_simp; try (with_reducible rfl))
            simp only [List.getElem_toArray, List.getElem_cons_succ, List.getElem_cons_zero, Act.put, List.setIfInBounds_toArray, List.set_cons_zero, List.set_cons_succ]
            refine wpAnyH_take (i := 27) (v := ?v62) rfl (by kernel_rfl) (by kernel_rfl) (by kernel_rfl) (fun _ _ _ h => h) (Or.inl ⟨by rfl, ?y62⟩) (by assumption) ?r62
            case y62 => (intro w hSw; (try dsimp only at hSw); go_simp; try (with_reducible rfl))
            simp only [List.getElem_toArray, List.getElem_cons_succ, List.getElem_cons_zero, Act.put, List.setIfInBounds_toArray, List.set_cons_zero, List.set_cons_succ]
            refine wpAnyH_take (i := 28) (v := ?v63) rfl (by kernel_rfl) (by kernel_rfl) (by kernel_rfl) (fun _ _ _ h => h) (Or.inl ⟨by rfl, ?y63⟩) (by assumption) ?r63
            case y63 => (intro w hSw; (try dsimp only at hSw); go_simp; try (with_reducible rfl))
            simp only [List.getElem_toArray, List.getElem_cons_succ, List.getElem_cons_zero, Act.put, List.setIfInBounds_toArray, List.set_cons_zero, List.set_cons_succ]
            refine wpAnyH_take (i := 29) (v := ?v64) rfl (by kernel_rfl) (by kernel_rfl) (by kernel_rfl) (fun _ _ _ h => h) (Or.inl ⟨by rfl, ?y64⟩) (by assumption) ?r64
            case y64 => (intro w hSw; (try dsimp only at hSw); go_simp; try (with_reducible rfl))
            simp only [List.getElem_toArray, List.getElem_cons_succ, List.getElem_cons_zero, Act.put, List.setIfInBounds_toArray, List.set_cons_zero, List.set_cons_succ]
            refine wpAnyH_take (i := 30) (v := ?v65) rfl (by kernel_rfl) (by kernel_rfl) (by kernel_rfl) (fun _ _ _ h => h) (Or.inl ⟨by rfl, ?y65⟩) (by assumption) ?r65
            case y65 => (intro w hSw; (try dsimp only at hSw); go_simp; try (with_reducible rfl))
            simp only [List.getElem_toArray, List.getElem_cons_succ, List.getElem_cons_zero, Act.put, List.setIfInBounds_toArray, List.set_cons_zero, List.set_cons_succ]
            refine wpAnyH_take (i := 31) (v := ?v66) rfl (by kernel_rfl) (by kernel_rfl) (by kernel_rfl) (fun _ _ _ h => h) (Or.inl ⟨by rfl, ?y66⟩) (by assumption) ?r66
            case y66 => (intro w hSw; (try dsimp only at hSw); go_simp; try (with_reducible rfl))
            simp only [List.getElem_toArray, List.getElem_cons_succ, List.getElem_cons_zero, Act.put, List.setIfInBounds_toArray, List.set_cons_zero, List.set_cons_succ]
            refine wpAnyH_take (i := 32) (v := ?v67) rfl (by kernel_rfl) (by kernel_rfl) (by kernel_rfl) (fun _ _ _ h => h) (Or.inl ⟨by rfl, ?y67⟩) (by assumption) ?r67
            case y67 => (intro w hSw; (try dsimp only at hSw); go_simp; try (with_reducible rfl))
            simp only [List.getElem_toArray, List.getElem_cons_succ, List.getElem_cons_zero, Act.put, List.setIfInBounds_toArray, List.set_cons_zero, List.set_cons_succ]
            refine wpAnyH_take (i := 33) (v := undef) rfl (by kernel_rfl) (by kernel_rfl) (by kernel_rfl) (fun _ _ _ h => h) (Or.inr ⟨by rfl, rfl⟩) (by assumption) ?_
            simp only [List.getElem_toArray, List.getElem_cons_succ, List.getElem_cons_zero, Act.put, List.setIfInBounds_toArray, List.set_cons_zero, List.set_cons_succ]
            refine wpAnyH_take (i := 34) (v := ?v69) rfl (by kernel_rfl) (by kernel_rfl) (by kernel_rfl) (fun _ _ _ h => h) (Or.inl ⟨by rfl, ?y69⟩) (by assumption) ?r69
            case y69 => (intro w hSw; (try dsimp only at hSw); go_simp; try (with_reducible rfl))
            simp only [List.getElem_toArray, List.getElem_cons_succ, List.getElem_cons_zero, Act.put, List.setIfInBounds_toArray, List.set_cons_zero, List.set_cons_succ]
            refine wpAnyH_take (i := 35) (v := ?v70) rfl (by kernel_rfl) (by kernel_rfl) (by kernel_rfl) (fun _ _ _ h => h) (Or.inl ⟨by rfl, ?y70⟩) (by assumption) ?r70
            case y70 => (intro w hSw; (try dsimp only at hSw); go_simp; try (with_reducible rfl))
            simp only [List.getElem_toArray, List.getElem_cons_succ, List.getElem_cons_zero, Act.put, List.setIfInBounds_toArray, List.set_cons_zero, List.set_cons_succ]
            refine wpAnyH_done (by kernel_rfl) ?_ _
            obtain ⟨hL2, hM2, hB2⟩ := hHeld
            clear hLL hMM hBB
            cases mw with
            | false =>
              go_wp2_with fail
              go_meet
              exact hB2
            | true =>
              have HL2 := hide hL2
              have HM2 := hide hM2
              have HB2 := hide hB2
              have HST2 := hide (HST.out rfl)
              clear hL2 hM2 hB2
              have hP1 := hpl.1
              have hP2 := hpl.2
              go_wp2
              go_loopw [25] (fun i wr => ∃ j : Nat, j ≤ n ∧ j ≤ k ∧ i = .int .i64 j ∧ Hid (P ≤ j) ∧ SlE wr aa l ∧ SlE wr ba m ∧ Below w.heap.size w wr) (fun i _ => n - (intOf i).toNat)
              case atStart => exact ⟨P, hP1, hP2, rfl, Nat.le_refl _, HL2.out, HM2.out, HB2.out⟩
              case round =>
                obtain ⟨j, hjn, hjk, rfl, HPJ, hls, hms, hbel⟩ := hrel
                by_cases h1 : j < n
                · have h1I : (j : Int) < (n : Int) := by omega
                  by_cases h2 : j < k
                  · have h2I : (j : Int) < (k : Int) := by omega
                    have hne := HST2.out j HPJ.out h1 h2
                    obtain ⟨b1, o1, e1, g1, _⟩ := hls j (by rw [HN.out]; exact h1)
                    obtain ⟨b2, o2, e2, g3, _⟩ := hms j (by rw [HK.out]; exact h2)
                    subst e1
                    subst e2
                    have hj0 : (0 : Int) ≤ (j : Int) := by omega
                    obtain ⟨x, hx⟩ : ∃ x, x = (l.getD j eE).1 := ⟨_, rfl⟩
                    obtain ⟨u, hu⟩ : ∃ u, u = (m.getD j eE).1 := ⟨_, rfl⟩
                    rw [← hx] at g1 hne
                    rw [← hu] at g3 hne
                    have f1 : (x == u) = false := by simpa using hne
                    have LL := hide hls
                    have MM := hide hms
                    have BB := hide hbel
                    clear hne hx hu hls hms hbel
                    go_wp2
                    go_quiet (fail)
                    go_wp2
                    go_roundw
                    case rel => exact ⟨j + 1, by omega, by omega, by go_num, by show P ≤ j + 1; have := HPJ.out; omega, LL.out.below (below_dN (Below.refl _ _) _), MM.out.below (below_dN (Below.refl _ _) _), below_dN BB.out _⟩
                    case measure => simp [intOf]; omega
                  · have h2I : ¬ (j : Int) < (k : Int) := by omega
                    go_wp2_with fail
                    go_meet
                    exact hbel
                · have h1I : ¬ (j : Int) < (n : Int) := by omega
                  go_wp2_with fail
                  go_meet
                  exact hbel
    case rest =>
      as_aux_lemma =>
        have B0 := hide hcut
        clear hcut HV HV2 HV3 HN HK HLT HMT
        go_wp2_with fail
        refine (drawStartsOf_any a1 len1 cap1 _ (Slb.below S1.out B0.out) hl1).mono ?_
        rintro e x1 ⟨v1', rfl, ho1, hb⟩
        obtain ⟨l2, ca, n2, cc, rfl, hn, hn41', hlt, _, _, hls⟩ := own_en ho1
        have bb := hide hb
        have B1 := hide (B0.out.trans (bb.out.mono B0.out.size))
        clear B0
        clear bb
        have L0 := hide hls
        have HN := hide hn
        have HLT := hide hlt
        obtain ⟨r, hr⟩ : ∃ r, r = stsR l2 := ⟨_, rfl⟩
        have c1 := fun (wx : World) (h1 : SlE wx ca l2) => implStartsOf_any ca l2 n2 cc wx hn h1 (by omega) hlt r hr
        have c2 := fun (wx : World) (h1 : SlE wx ca l2) => specStartsOf_any ca l2 n2 cc wx hn h1 (by omega) hlt r hr
        have hle := stsR_len l2
        rw [← hr] at hle
        obtain ⟨st, hy⟩ : ∃ ys, ys = r.getD [] := ⟨_, rfl⟩
        obtain ⟨q, hq⟩ : ∃ m, st.length = m := ⟨_, rfl⟩
        obtain ⟨ok, hok⟩ : ∃ ok, ok = r.isSome := ⟨_, rfl⟩
        simp only [RetT7, ← hy, hq, ← hok] at c1 c2
        rw [← hy, hq] at hle
        have hend : ∀ i, i < q → endR l2 (st.getD i (0, 0)).1 = (nxt st i (n2 : Int), true) := fun i hi => by
          rw [hr] at hy
          unfold stsR at hy
          split at hy
          · rename_i hg
            have e : st = sts l2 := hy
            rw [← hq, e] at hi
            rw [e]
            obtain ⟨⟨s, h1, h2, h3⟩, _, _⟩ := sts_st hg.mono i hi
            have h4 := (hg.2 s h2).1
            unfold okE at h4
            rw [h3] at h4
            unfold endR
            rw [if_pos ⟨hg, by omega, by omega⟩, end_nxt hg.mono i hi, hn]
          · rw [hy] at hq; simp at hq; omega
        have C1 := hide c1
        have C2 := hide c2
        have HQ := hide hq
        have HEND := hide hend
        clear c1 c2 hr hy hq hok hn hlt hls ho1 hb hend
        go_wp2_with fail
        refine (C1.out _ L0.out).mono ?_
        rintro e v12 ⟨vx, rfl, hox, hb⟩
        obtain ⟨xa, xc, rfl, xs, _⟩ := own_formS hox
        have bb := hide hb
        have B2 := hide (B1.out.trans (bb.out.mono B1.out.size))
        clear B1
        have L1 := hide (L0.out.below bb.out)
        clear L0
        clear bb
        clear hb
        have X0 := hide xs
        clear hox xs
        go_wp2_with fail
        refine (C2.out _ L1.out).mono ?_
        rintro e v13 ⟨vy, rfl, hoy, hb⟩
        obtain ⟨ya, yc, rfl, ys', _⟩ := own_formS hoy
        have bb := hide hb
        have B3 := hide (B2.out.trans (bb.out.mono B2.out.size))
        clear B2
        have L2 := hide (L1.out.below bb.out)
        clear L1
        have X1 := hide (X0.out.below bb.out)
        clear X0
        clear bb
        clear hb
        have Y0 := hide ys'
        clear hoy ys'
        go_wp2
        go_loopw [227] (fun i wr => ∃ j : Nat, j ≤ q ∧ i = .int .i64 j ∧ Below v13.heap.size v13 wr) (fun i _ => q - (intOf i).toNat)
        case atStart => exact ⟨0, Nat.zero_le _, rfl, Below.refl _ _⟩
        case round =>
          obtain ⟨j, hj, rfl, hbel⟩ := hrel
          by_cases hjq : j < q
          · obtain ⟨b1, o1, rfl, p1, p2⟩ := X1.out j (by rw [HQ.out]; exact hjq)
            obtain ⟨b2, o2, rfl, p3, p4⟩ := Y0.out j (by rw [HQ.out]; exact hjq)
            have g1 := (hbel.cell (p := ⟨b1, o1 + j * 2, none⟩) (blk_lt p1)).trans p1
            have g2 := (hbel.cell (p := ⟨b1, o1 + j * 2 + 1, none⟩) (blk_lt p2)).trans p2
            have g3 := (hbel.cell (p := ⟨b2, o2 + j * 2, none⟩) (blk_lt p3)).trans p3
            have g4 := (hbel.cell (p := ⟨b2, o2 + j * 2 + 1, none⟩) (blk_lt p4)).trans p4
            have hjI : (j : Int) < (q : Int) := by omega
            have hj0 : (0 : Int) ≤ (j : Int) := by omega
            have hee := HEND.out j hjq
            obtain ⟨x, hx⟩ : ∃ x, x = (st.getD j (0, 0)).1 := ⟨_, rfl⟩
            obtain ⟨y, hy⟩ : ∃ y, y = (st.getD j (0, 0)).2 := ⟨_, rfl⟩
            rw [← hx] at g1 g3 hee
            rw [← hy] at g2 g4
            have CE := hide (fun (wx : World) (h1 : SlE wx ca l2) => implEndOf_any ca l2 n2 cc x wx HN.out h1 (by omega) HLT.out _ true hee)
            have BQ := hide hbel
            have fx : (x == x) = true := by simp
            have fy : (y == y) = true := by simp
            clear p1 p2 p3 p4 hx hy hee hbel
            go_wp2
            go_quiet (fail)
            go_wp2_with fail
            refine (CE.out _ (L2.out.below (below_dN BQ.out _))).mono ?_
            rintro e wy ⟨rfl, hbz⟩
            have BZ := hide ((below_dN BQ.out _).trans (hbz.mono (below_dN BQ.out _).size))
            clear hbz
            by_cases h3 : (j : Int) + 1 < (q : Int)
            · obtain ⟨b4, o4, hab, _, r2⟩ := X1.out (j + 1) (by rw [HQ.out]; omega)
              cases hab
              have hnx : nxt st j (n2 : Int) = (st.getD (j + 1) (0, 0)).2 := by unfold nxt; rw [if_pos (by rw [HQ.out]; omega)]
              rw [hnx]
              obtain ⟨u, hu⟩ : ∃ u, u = (st.getD (j + 1) (0, 0)).2 := ⟨_, rfl⟩
              rw [← hu] at r2 ⊢
              have r3 := (BZ.out.cell (p := ⟨b1, o1 + (j + 1) * 2 + 1, none⟩) (blk_lt r2)).trans r2
              have hj1 : (0 : Int) ≤ (j : Int) + 1 := by omega
              clear hnx hu r2
              go_wp2
              go_roundw
              case rel => exact ⟨j + 1, by omega, by go_num, BZ.out⟩
              case measure => simp [intOf]; omega
            · have hnx : nxt st j (n2 : Int) = (n2 : Int) := by unfold nxt; rw [if_neg (by rw [HQ.out]; omega)]
              rw [hnx]
              clear hnx
              go_wp2
              go_roundw
              case rel => exact ⟨j + 1, by omega, by go_num, BZ.out⟩
              case measure => simp [intOf]; omega
          · have hjI : ¬ (j : Int) < (q : Int) := by omega
            have bb := hide hbel
            have B4 := hide (B3.out.trans (bb.out.mono B3.out.size))
            clear B3
            clear L2
            clear X1
            clear Y0
            clear bb
            clear hbel
            go_wp2_with fail
            refine (drawEndOf_any a1 len1 cap1 _ (Slb.below S1.out B4.out) hl1).mono ?_
            rintro e x2 ⟨v3', ep, rfl, ho1, hb⟩
            obtain ⟨l3, da, n3, dc, rfl, hn, hn3, hlt, _, _, hls⟩ := own_en ho1
            have bb := hide hb
            have B5 := hide (B4.out.trans (bb.out.mono B4.out.size))
            clear B4
            clear bb
            have L0 := hide hls
            obtain ⟨ev, eo, hv⟩ : ∃ v ok, endR l3 ep = (v, ok) := ⟨_, _, rfl⟩
            have D1 := hide (fun (wx : World) (h1 : SlE wx da l3) => implEndOf_any da l3 n3 dc ep wx hn h1 (by omega) hlt ev eo hv)
            have D2 := hide (fun (wx : World) (h1 : SlE wx da l3) => specEndOf_any da l3 n3 dc ep wx hn h1 (by omega) hlt ev eo hv)
            clear hv hn hlt hls ho1 hb
            go_wp2_with fail
            refine (D1.out _ L0.out).mono ?_
            rintro e v14 ⟨rfl, hb⟩
            have bb := hide hb
            have B6 := hide (B5.out.trans (bb.out.mono B5.out.size))
            clear B5
            have L1 := hide (L0.out.below bb.out)
            clear L0
            clear bb
            clear hb
            go_wp2_with fail
            refine (D2.out _ L1.out).mono ?_
            rintro e v15 ⟨rfl, hb⟩
            have bb := hide hb
            have B7 := hide (B6.out.trans (bb.out.mono B6.out.size))
            clear B6
            have L2 := hide (L1.out.below bb.out)
            clear L1
            clear bb
            clear hb
            go_wp2
            go_ret
            exact ⟨rfl, B7.out⟩
end Go.Proofs.Ytdnmklcnlndmhac.fnParts
