/-
  Contract: spec.l7Follow.
-/
import Derived.Test.YtdnmklcnlndmhbbL7FolMath
import Derived.Test.YtdnmklcnlndmhbbL7AppH
import Derived.Test.YtdnmklcnlndmhbbL7SFnd
namespace Go.Proofs.Ytdnmklcnlndmhbb.L7
open Go.RowKit L1
set_option linter.unusedVariables false

set_option maxRecDepth 100000 in
set_option maxHeartbeats 2000000 in
theorem l7Follow_any (a b : Option Addr) (l m : List En) (n c1 k c2 : Nat) (w : World) (hn : l.length = n) (hs : SlE w a l) (hn2 : n ≤ 1048576) (hk : m.length = k) (ht : SlE w b m) (hk2 : k ≤ 1048576) (hca : n ≤ c1) (hca0 : a = none → c1 = 0) (hcb : k ≤ c2) (hcb0 : b = none → c2 = 0) (hM : Mono m) (ys : List En) (p : Int) (hv : fol l m = (ys, p)) :
    Calls Try.prog 46 #[.slice a n c1, .slice b k c2] w fun e w' => ∃ v, e = .returned (.tuple #[v, .int .i64 p]) ∧ w'.ownsRow w.heap.size 50 2 v ys.length (flatE ys) ∧ Below w.heap.size w w' := by
  have HS := hide hs
  have HT := hide ht
  have hbd := find_bd (l := l) hM
  obtain ⟨P, hP⟩ : ∃ P : Nat, (find l (sts m) m.length).1 = (P : Int) := ⟨(find l (sts m) m.length).1.toNat, by omega⟩
  have hPn : P ≤ n := by omega
  have hPk : P ≤ k := by omega
  have hr : (ys, p) = (l.take P ++ m.drop P, (P : Int)) := by rw [← hv]; unfold fol; rw [hP]; simp
  obtain ⟨d1, S1⟩ := slice_to a n c1 P hPn hca hca0
  obtain ⟨b', d2, S2, S3⟩ := slice_from w b m k c2 P hk ht hPk hcb hcb0
  have CS := fun w ht => l7Starts_any b m k c2 w hk ht hk2
  have hsl := sts_le m
  have CF := fun b c w hs ht => l7Find_any a b l (sts m) n c1 _ c (m.length : Int) w hn hs hn2 rfl ht (by omega) (P : Int) (find l (sts m) m.length).2 (by rw [← hP])
  rw [hk] at hsl
  obtain ⟨Q, hQ⟩ : ∃ Q, Q = (find l (sts m) m.length).2 := ⟨_, rfl⟩
  simp only [← hQ] at CF
  simp only [hk] at CF
  obtain ⟨S, hS⟩ : ∃ S, S = sts m := ⟨_, rfl⟩
  simp only [RetS, ← hS] at CS
  simp only [← hS] at CF
  rw [← hS] at hsl
  obtain ⟨sn, hsn⟩ : ∃ sn, sn = S.length := ⟨_, rfl⟩
  simp only [← hsn] at CS CF
  have HCS := hide CS
  have HCF := hide CF
  have HTL : Hid ((l.take P).length = P) := by show (l.take P).length = P; simp; omega
  have HDL : Hid ((m.drop P).length = k - P) := by show (m.drop P).length = k - P; simp; omega
  have HLK : Hid ((l.take P ++ m.drop P).length = k) := by show (l.take P ++ m.drop P).length = k; simp; omega
  have HS3 := hide S3
  cases hr
  clear hv hs hn ht hk CS CF hS hsn hQ hP hbd hsl S3
  go_enter Try.func46, Try.ntmps46
  go_wp2_with fail
  refine (HCS.out _ HT.out).mono ?_
  rintro e w3 ⟨v1, rfl, ho1, hq1⟩
  obtain ⟨sa, scap, rfl, hs1, _⟩ := own_formS ho1
  have B3 := hide hq1
  have S3' := hide (HS.out.below hq1)
  have T3 := hide (HT.out.below hq1)
  have P3 := hide hs1
  clear ho1 hs1 hq1 HS HT
  go_wp2_with fail
  refine (HCF.out _ _ _ S3'.out P3.out).mono ?_
  rintro e W0 ⟨rfl, hq⟩
  have B4 := hide (B3.out.trans (hq.mono B3.out.size))
  have S4 := hide (S3'.out.below hq)
  have T4 := hide (T3.out.below hq)
  clear hq S3' T3 B3 P3
  go_wp2
  refine wp_region_held_drew (S := (fun wx => Below W0.heap.size W0 wx)) (by kernel_rfl) (Below.refl _ _).drew (fun hHeld => ?_)
  refine wpAnyH_take (i := 1) (v := ?v1) rfl (by kernel_rfl) (by kernel_rfl) (by kernel_rfl) (fun _ _ _ h => h) (Or.inl ⟨by rfl, ?y1⟩) (by assumption) ?r1
  case y1 => (intro w hSw; (try dsimp only at hSw); go_simp; try (with_reducible rfl))
  simp only [List.getElem_toArray, List.getElem_cons_succ, List.getElem_cons_zero, Act.put, List.setIfInBounds_toArray, List.set_cons_zero, List.set_cons_succ]
  refine wpAnyH_take (i := 2) (v := ?v2) rfl (by kernel_rfl) (by kernel_rfl) (by kernel_rfl) (fun _ _ _ h => h) (Or.inl ⟨by rfl, ?y2⟩) (by assumption) ?r2
  case y2 => (intro w hSw; (try dsimp only at hSw); go_simp; try (with_reducible rfl))
  simp only [List.getElem_toArray, List.getElem_cons_succ, List.getElem_cons_zero, Act.put, List.setIfInBounds_toArray, List.set_cons_zero, List.set_cons_succ]
  refine wpAnyH_take (i := 3) (v := ?v3) rfl (by kernel_rfl) (by kernel_rfl) (by kernel_rfl) (fun _ _ _ h => h) (Or.inl ⟨by rfl, ?y3⟩) (by assumption) ?r3
  case y3 => (intro w hSw; (try dsimp only at hSw); go_simp; try (with_reducible rfl))
  simp only [List.getElem_toArray, List.getElem_cons_succ, List.getElem_cons_zero, Act.put, List.setIfInBounds_toArray, List.set_cons_zero, List.set_cons_succ]
  refine wpAnyH_take (i := 5) (v := ?v4) rfl (by kernel_rfl) (by kernel_rfl) (by kernel_rfl) (fun _ _ _ h => h) (Or.inl ⟨by rfl, ?y4⟩) (by assumption) ?r4
  case y4 => (intro w hSw; (try dsimp only at hSw); go_simp; try (with_reducible rfl))
  simp only [List.getElem_toArray, List.getElem_cons_succ, List.getElem_cons_zero, Act.put, List.setIfInBounds_toArray, List.set_cons_zero, List.set_cons_succ]
  refine wpAnyH_take (i := 6) (v := ?v5) rfl (by kernel_rfl) (by kernel_rfl) (by kernel_rfl) (fun _ _ _ h => h) (Or.inl ⟨by rfl, ?y5⟩) (by assumption) ?r5
  case y5 => (intro w hSw; (try dsimp only at hSw); go_simp; try (with_reducible rfl))
  simp only [List.getElem_toArray, List.getElem_cons_succ, List.getElem_cons_zero, Act.put, List.setIfInBounds_toArray, List.set_cons_zero, List.set_cons_succ]
  refine wpAnyH_take (i := 7) (v := ?v6) rfl (by kernel_rfl) (by kernel_rfl) (by kernel_rfl) (fun _ _ _ h => h) (Or.inl ⟨by rfl, ?y6⟩) (by assumption) ?r6
  case y6 => (intro w hSw; (try dsimp only at hSw); go_simp; try (with_reducible rfl))
  simp only [List.getElem_toArray, List.getElem_cons_succ, List.getElem_cons_zero, Act.put, List.setIfInBounds_toArray, List.set_cons_zero, List.set_cons_succ]
  refine wpAnyH_take (i := 9) (v := ?v7) rfl (by kernel_rfl) (by kernel_rfl) (by kernel_rfl) (fun _ _ _ h => h) (Or.inl ⟨by rfl, ?y7⟩) (by assumption) ?r7
  case y7 => (intro w hSw; (try dsimp only at hSw); go_simp; try (with_reducible rfl))
  simp only [List.getElem_toArray, List.getElem_cons_succ, List.getElem_cons_zero, Act.put, List.setIfInBounds_toArray, List.set_cons_zero, List.set_cons_succ]
  refine wpAnyH_ready (rs := [0]) (by kernel_rfl) (by simp) ?_
  refine AllReadyH.cons rfl (fun K hK => ?_) AllReadyH.nil
  simp only [List.getElem_toArray, List.getElem_cons_zero]
  go_simp
  refine hK.out _ _ ?_ (fun hHeld => ?_)
  · exact ((Below.refl _ W0).alloc (Nat.le_refl _) _).drew
  clear hK K
  try simp only [Act.put, List.setIfInBounds_toArray, List.set_cons_zero, List.set_cons_succ]
  refine wpAnyH_ready (rs := [4]) (by kernel_rfl) (by simp) ?_
  refine AllReadyH.cons rfl (fun K hK => ?_) AllReadyH.nil
  simp only [List.getElem_toArray, List.getElem_cons_succ, List.getElem_cons_zero]
  rw [if_pos (by rfl)]
  refine wp_append_ent (.tmp 17) (.tmp 20) rfl W0.heap.size (some ⟨W0.heap.size, 0, none⟩) a 0 0 P d1 [] (l.take P) rfl HTL.out (by omega) (by omega) rfl (own_emptyE W0 _ (Nat.le_refl _)) rfl (slE_take (S4.out.below ((Below.refl _ W0).alloc (Nat.le_refl _) _)) P) (by show W0.heap.size ≤ (W0.alloc _).heap.size; simp) ?_
  intro a5 c5 w5 ho5 hg5
  have hb5 : Below W0.heap.size (W0.alloc (.cells #[] 50)).drew w5 := (Below.refl _ _).grown hg5 (by show W0.heap.size ≤ (W0.alloc _).heap.size; simp) (fun g hg => by cases hg; exact Nat.le_refl _)
  have hb5' : Below W0.heap.size W0 w5 := (((Below.refl _ W0).alloc (Nat.le_refl _) (.cells #[] 50)).drew).trans hb5
  have HO5 : Hid (w5.ownsRow W0.heap.size 50 2 (.slice a5 (0 + P) c5) (0 + P) (flatE (l.take P))) := ho5
  have HB5 := hide hb5'
  refine hK.out _ _ ?_ (fun hHeld => ?_)
  · exact hb5'
  clear hg5 hb5 ho5 hb5'
  clear hK K
  try simp only [Act.put, List.setIfInBounds_toArray, List.set_cons_zero, List.set_cons_succ]
  refine wpAnyH_ready (rs := [8]) (by kernel_rfl) (by simp) ?_
  refine AllReadyH.cons rfl (fun K hK => ?_) AllReadyH.nil
  simp only [List.getElem_toArray, List.getElem_cons_succ, List.getElem_cons_zero]
  rw [if_pos (by rfl)]
  refine wp_append_ent (.tmp 21) (.tmp 24) rfl W0.heap.size a5 b' (0 + P) c5 (k - P) d2 (l.take P) (m.drop P) (by rw [HTL.out]; omega) HDL.out (by omega) (by omega) rfl HO5.out rfl (HS3.out _ (T4.out.below HB5.out)) HB5.out.size ?_
  intro a6 c6 w6 ho6 hg6
  have hb6 : Below W0.heap.size W0 w6 := HB5.out.trans ((Below.refl _ _).grown hg6 HB5.out.size (fun g hg => (HO5.out.lt g hg).1))
  have HO6 : Hid (w6.ownsRow W0.heap.size 50 2 (.slice a6 (0 + P + (k - P)) c6) (0 + P + (k - P)) (flatE (l.take P ++ m.drop P))) := ho6
  have HB6 := hide hb6
  refine hK.out _ _ ?_ (fun hHeld => ?_)
  · exact hb6
  clear hg6 hb6 ho6
  clear hK K
  try simp only [Act.put, List.setIfInBounds_toArray, List.set_cons_zero, List.set_cons_succ]
  refine wpAnyH_take (i := 10) (v := ?v8) rfl (by kernel_rfl) (by kernel_rfl) (by kernel_rfl) (fun _ _ _ h => h) (Or.inl ⟨by rfl, ?y8⟩) (by assumption) ?r8
  case y8 => (intro w hSw; (try dsimp only at hSw); go_simp; try (with_reducible rfl))
  simp only [List.getElem_toArray, List.getElem_cons_succ, List.getElem_cons_zero, Act.put, List.setIfInBounds_toArray, List.set_cons_zero, List.set_cons_succ]
  refine wpAnyH_take (i := 11) (v := ?v9) rfl (by kernel_rfl) (by kernel_rfl) (by kernel_rfl) (fun _ _ _ h => h) (Or.inl ⟨by rfl, ?y9⟩) (by assumption) ?r9
  case y9 => (intro w hSw; (try dsimp only at hSw); go_simp; try (with_reducible rfl))
  simp only [List.getElem_toArray, List.getElem_cons_succ, List.getElem_cons_zero, Act.put, List.setIfInBounds_toArray, List.set_cons_zero, List.set_cons_succ]
  refine wpAnyH_done (by kernel_rfl) ?_ _
  have E1 : Hid (0 + P + (k - P) = k) := by show 0 + P + (k - P) = k; omega
  have HO7 := HO6.out
  rw [E1.out] at HO7 ⊢
  have HO8 := hide (own_baseT HO7 B4.out.size)
  have B8 := hide (B4.out.trans (HB6.out.mono B4.out.size))
  clear HO7 HO6 hHeld HB6 HB5 HO5
  go_wp2
  go_ret2
  exact ⟨_, rfl, by rw [HLK.out]; exact HO8.out, B8.out⟩
end Go.Proofs.Ytdnmklcnlndmhbb.L7
