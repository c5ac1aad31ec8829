/-
  Contract: impl.FollowLog.
-/
import Derived.Test.YtdnmklcnlndmhbbL7FolMath
import Derived.Test.YtdnmklcnlndmhbbL7Fnd
import Derived.Test.YtdnmklcnlndmhbbL7Good
namespace Go.Proofs.Ytdnmklcnlndmhbb.L7
open Go.RowKit L1
set_option linter.unusedVariables false

theorem slE_below' {w w4 w5 : World} {a : Option Addr} {xs : List En} (h4 : SlE w4 a xs) (hb : Below w.heap.size w4 w5) (hw : Below w.heap.size w w4) (h : SlE w a xs) : SlE w5 a xs := fun i hi => by
  obtain ⟨b, off, ha, hc, hd⟩ := h i hi
  exact ⟨b, off, ha, (hb.cell (p := ⟨b, off + i * 2, none⟩) (blk_lt hc)).trans ((hw.cell (p := ⟨b, off + i * 2, none⟩) (blk_lt hc)).trans hc), (hb.cell (p := ⟨b, off + i * 2 + 1, none⟩) (blk_lt hd)).trans ((hw.cell (p := ⟨b, off + i * 2 + 1, none⟩) (blk_lt hd)).trans hd)⟩
set_option maxRecDepth 100000 in
set_option maxHeartbeats 2000000 in
theorem implFollow_any (a b : Option Addr) (l m : List En) (n c1 k c2 : Nat) (w : World) (hn : l.length = n) (hs : SlE w a l) (hn2 : n ≤ 1048576) (hst : ∀ j, j < l.length → (l.getD j eE).2.size ≤ 9223372036854775807) (hk : m.length = k) (ht : SlE w b m) (hk2 : k ≤ 1048576) (htt : ∀ j, j < m.length → (m.getD j eE).2.size ≤ 9223372036854775807) (hca : n ≤ c1) (hca0 : a = none → c1 = 0) (hcb : k ≤ c2) (hcb0 : b = none → c2 = 0) (ys : List En) (p : Int) (ok : Bool) (hv : folR l m = (ys, p, ok)) :
    Calls Try.prog 22 #[.slice a n c1, .slice b k c2] w fun e w' => RetF w ys p ok e w' := by
  have HS := hide hs
  have HT := hide ht
  by_cases hg : GoodE l
  · have C := hide (goodEntries_any a l n c1 w hn hs hn2 hst true (by simp [hg]))
    by_cases hh : GoodE m
    · have D := hide (fun w ht => goodEntries_any b m k c2 w hk ht hk2 htt true (by simp [hh]))
      have hbd := find_bd (l := l) hh.mono
      obtain ⟨P, hP⟩ : ∃ P : Nat, (find l (sts m) m.length).1 = (P : Int) := ⟨(find l (sts m) m.length).1.toNat, by omega⟩
      have hPn : P ≤ n := by omega
      have hPk : P ≤ k := by omega
      have hr : (ys, p, ok) = (l.take P ++ m.drop P, (P : Int), true) := by rw [← hv]; unfold folR; rw [if_pos ⟨hg, hh⟩]; unfold fol; rw [hP]; simp
      obtain ⟨d1, S1⟩ := slice_to a n c1 P hPn hca hca0
      obtain ⟨b', d2, S2, S3⟩ := slice_from w b m k c2 P hk ht hPk hcb hcb0
      have CS := fun w ht => startsOf_any b m k c2 w hk ht hk2
      have hsl := sts_le m
      have CF := fun b c w hs ht => findPart_any a b l (sts m) n c1 _ c (m.length : Int) w hn hs hn2 rfl ht (by omega) hg.mono (sts_rise hh.mono) (P : Int) (find l (sts m) m.length).2 (by rw [← hP])
      rw [hk] at hsl
      obtain ⟨Q, hQ⟩ : ∃ Q, Q = (find l (sts m) m.length).2 := ⟨_, rfl⟩
      simp only [← hQ] at CF
      simp only [hk] at CF
      obtain ⟨S, hS⟩ : ∃ S, S = sts m := ⟨_, rfl⟩
      simp only [RetS, ← hS] at CS
      simp only [← hS] at CF
      rw [← hS] at hsl
      obtain ⟨sn, hsn⟩ : ∃ sn, sn = S.length := ⟨_, rfl⟩
      simp only [← hsn] at CS CF
      have HCS := hide CS
      have HCF := hide CF
      have HTL : Hid ((l.take P).length = P) := by show (l.take P).length = P; simp; omega
      have HDL : Hid ((m.drop P).length = k - P) := by show (m.drop P).length = k - P; simp; omega
      have HLK : Hid ((l.take P ++ m.drop P).length = k) := by show (l.take P ++ m.drop P).length = k; simp; omega
      have HT0 := hide ht
      have HS3 := hide S3
      cases hr
      clear hv hs hn hst ht hk htt hg hh CS CF hS hsn hQ hP hbd hsl S3
      go_enter Try.func22, Try.ntmps22
      go_wp2_with fail
      refine (C.out).mono ?_
      rintro e w1 ⟨rfl, hb⟩
      have S_1 := hide (HS.out.below hb)
      have T_1 := hide (HT.out.below hb)
      have B_1 := hide hb
      clear hb HS HT
      go_wp2_with fail
      refine (D.out _ T_1.out).mono ?_
      rintro e w2 ⟨rfl, hb⟩
      have S_2 := hide (S_1.out.below hb)
      have T_2 := hide (T_1.out.below hb)
      have B_2 := hide (B_1.out.trans (hb.mono B_1.out.size))
      clear hb S_1 T_1 B_1
      go_wp2_with fail
      refine (HCS.out _ T_2.out).mono ?_
      rintro e w3 ⟨v1, rfl, ho1, hq1⟩
      obtain ⟨sa, scap, rfl, hs1, _⟩ := own_formS ho1
      have B3 := hide (B_2.out.trans (hq1.mono B_2.out.size))
      have S3' := hide (S_2.out.below hq1)
      have T3 := hide (T_2.out.below hq1)
      have P3 := hide hs1
      clear ho1 hs1 hq1 S_2 T_2 B_2
      go_wp2_with fail
      refine (HCF.out _ _ _ S3'.out P3.out).mono ?_
      rintro e w4 ⟨rfl, hq⟩
      have B4 := hide (B3.out.trans (hq.mono B3.out.size))
      have S4 := hide (S3'.out.below hq)
      have T4 := hide (T3.out.below hq)
      have hz4 := B4.out.size
      clear hq S3' T3 B3 P3
      go_wp2_with (first
        | (at_builtin; refine wpList_append_ent rfl _ _ rfl w.heap.size _ _ 0 0 P d1 [] (l.take P) rfl HTL.out (by omega) (by omega) rfl (World.ownsRow_nil _ _ _ _) rfl (slE_take S4.out P) hz4 ?_)
        | go_in)
      intro a5 c5 w5 ho5 hg5
      have hb5 := (Below.refl w.heap.size w4).grown hg5 hz4 (fun g hg => by cases hg)
      have B5 := hide (B4.out.trans hb5)
      have T5 := hide (HS3.out _ (slE_below' T4.out hb5 B4.out HT0.out))
      have HO5 : Hid (w5.ownsRow w.heap.size 50 2 (.slice a5 P c5) P (flatE (l.take P))) := ho5
      have hz5 := B5.out.size
      clear ho5 hg5 hb5
      go_wp2_with (first
        | (at_builtin; refine wpList_append_ent rfl _ _ rfl w.heap.size _ _ P _ (k - P) d2 (l.take P) (m.drop P) HTL.out HDL.out (by omega) (by omega) rfl HO5.out rfl T5.out hz5 ?_)
        | go_in)
      intro a6 c6 w6 ho6 hg6
      have hb6 := (Below.refl w.heap.size w5).grown hg6 hz5 (fun g hg => (HO5.out.lt g hg).1)
      have B6 := hide (B5.out.trans hb6)
      have HO6 : Hid (w6.ownsRow w.heap.size 50 2 (.slice a6 k c6) (l.take P ++ m.drop P).length (flatE (l.take P ++ m.drop P))) := by
        show World.ownsRow _ _ _ _ _ _ _
        rw [HLK.out]
        first
          | exact ho6
          | (rw [show P + (k - P) = k by omega] at ho6; exact ho6)
      clear ho6 hg6 hb6
      go_wp2
      go_ret3
      exact ⟨_, rfl, HO6.out, B6.out⟩
    · have D := hide (fun w ht => goodEntries_any b m k c2 w hk ht hk2 htt false (by simp [hh]))
      have hr : (ys, p, ok) = ([], 0, false) := by rw [← hv]; unfold folR; rw [if_neg (fun h => hh h.2)]
      cases hr
      clear hv hs hn hst ht hk htt hg hh
      go_enter Try.func22, Try.ntmps22
      go_wp2_with fail
      refine (C.out).mono ?_
      rintro e w1 ⟨rfl, hb⟩
      have T_1 := hide (HT.out.below hb)
      have B_1 := hide hb
      clear hb HT
      go_wp2_with fail
      refine (D.out _ T_1.out).mono ?_
      rintro e w2 ⟨rfl, hb⟩
      have T_2 := hide (T_1.out.below hb)
      have B_2 := hide (B_1.out.trans (hb.mono B_1.out.size))
      clear hb T_1 B_1
      go_wp2
      go_ret3
      exact ⟨_, rfl, World.ownsRow_nil _ _ _ _, B_2.out⟩
  · have C := hide (goodEntries_any a l n c1 w hn hs hn2 hst false (by simp [hg]))
    have hr : (ys, p, ok) = ([], 0, false) := by rw [← hv]; unfold folR; rw [if_neg (fun h => hg h.1)]
    cases hr
    clear hv hs hn hst ht hk htt hg
    go_enter Try.func22, Try.ntmps22
    go_wp2_with fail
    refine (C.out).mono ?_
    rintro e w1 ⟨rfl, hb⟩
    have B_1 := hide hb
    clear hb 
    go_wp2
    go_ret3
    exact ⟨_, rfl, World.ownsRow_nil _ _ _ _, B_1.out⟩
end Go.Proofs.Ytdnmklcnlndmhbb.L7
