/-
  Contract: spec.LeastOf.
-/
import Derived.Test.YtfmfnlpajoikmaoL15HLM
import Derived.Test.YtfmfnlpajoikmaoL15HSGd
import Derived.Deep.DeepCutAuto
import Derived.Deep.QuietTactic
import Derived.BigQuiet
namespace Go.Proofs.Ytfmfnlpajoikmao.L15H
open Go.RowKit L1 Own Str
set_option linter.unusedVariables false

set_option maxRecDepth 100000 in
set_option maxHeartbeats 8000000 in
theorem sLeastOf_any (a : Option Addr) (n c : Nat) (b : Option Addr) (m d : Nat) (G T : Int) (h : Hv) (s : ByteArray) (w : World) (hf : HF w a b n m h) (hg : h.g = G) (ht : h.t = T) (hn2 : n ≤ 1048576) (hm2 : m ≤ 1048576) (htx : ∀ i, i < h.nm.length → (h.nm.getD i e0).size ≤ 1048576) (hsS : s.size ≤ 9223372036854775807) (ok : Bool) (hok : ok = true ↔ GoodHv h n m ∧ L3.Word false s) (x y : Int) (hx : ok = true → CntIs h n s x ∧ y = x + G) (hx0 : ok = false → x = 0 ∧ y = 0) :
    Calls Try.prog 13 #[.agg #[.slice a n c, .slice b m d, .int .i64 G, .int .i64 T], .string s] w fun e w' => e = .returned (.tuple #[.int .i64 x, .int .i64 y, .bool ok]) ∧ Below w.heap.size w w' := by
  have BX := (Below.refl w.heap.size w).alloc (Nat.le_refl _) (hvO (.slice a n c) (.slice b m d) G T)
  have g0 := L8.blk_new w (hvO (.slice a n c) (.slice b m d) G T)
  obtain ⟨W0, hW0⟩ : ∃ W0, W0 = w.alloc (hvO (.slice a n c) (.slice b m d) G T) := ⟨_, rfl⟩
  rw [← hW0] at BX g0
  obtain ⟨k0, k1, k2, k3⟩ := blk4 g0
  have HW := hide hW0
  have B0 := hide BX
  have G0 := hide g0
  have F0 := hide (hf.below BX)
  by_cases hgd : GoodHv h n m
  rotate_left
  · have hfo : ok = false := bool_noG hok (fun q => hgd q.1)
    obtain ⟨rfl, rfl⟩ := hx0 hfo
    subst hfo
    have CG := hide (sGoodHeavy_any a n c b m d G T h W0 F0.out hg ht hn2 hm2 htx false ⟨fun q => (by cases q), fun q => absurd q hgd⟩)
    clear hok hx hx0 hf BX g0 hW0 hg ht
    go_enter Try.func13, Try.ntmps13
    go_upto_region 1 with fail
    rw [← HW.out]
    go_wp2_with fail
    refine CG.out.mono ?_
    rintro e w1 ⟨rfl, hb⟩
    have B1 := hide (B0.out.trans (hb.mono B0.out.size))
    clear hb
    go_wp2
    refine bodyPost_ret (v := .tuple #[.int .i64 0, .int .i64 0, .bool false]) (by simp [results, Try.f13, go_sem]) rfl ⟨rfl, B1.out⟩
  have CG := hide (sGoodHeavy_any a n c b m d G T h W0 F0.out hg ht hn2 hm2 htx true ⟨fun _ => hgd, fun _ => rfl⟩)
  have HGD := hide hgd
  have CW := hide (fun wx => L3.l3Name_any s false wx hsS ok ⟨fun q => (hok.1 q).2, fun q => hok.2 ⟨hgd, q⟩⟩)
  cases ok with
  | false =>
    obtain ⟨rfl, rfl⟩ := hx0 rfl
    clear hok hx hx0 hf BX g0 hW0 hg ht hgd
    go_enter Try.func13, Try.ntmps13
    go_upto_region 1 with fail
    rw [← HW.out]
    go_wp2_with fail
    refine CG.out.mono ?_
    rintro e w1 ⟨rfl, hb⟩
    have B1 := hide (B0.out.trans (hb.mono B0.out.size))
    clear hb
    go_wp2_with fail
    refine (CW.out _).mono ?_
    rintro e w2 ⟨rfl, rfl⟩
    have B2 := hide B1.out
    go_wp2
    refine bodyPost_ret (v := .tuple #[.int .i64 0, .int .i64 0, .bool false]) (by simp [results, Try.f13, go_sem]) rfl ⟨rfl, B2.out⟩
  | true =>
  have hwd := (hok.1 rfl).2
  obtain ⟨hcn, rfl⟩ := hx rfl
  have hn1 := hgd.n1
  have hn6 := hgd.n6
  have hGb : 0 ≤ G ∧ G ≤ 100000 := by rw [← hg]; exact ⟨hgd.g0, hgd.g1⟩
  have HMN := hide hgd.m
  obtain ⟨tk, htk⟩ := tk_ex h.nm n
  have hrise := hgd.rise htk
  have HTK := hide htk
  have HCN := hide hcn
  have hsne := word_ne hwd
  have HMN2 := hide (fun i (hi : i < n) => (hgd.p i hi).ct)
  clear hok hx hx0 hf BX g0 hW0 hg ht hgd htk hrise hcn hsne hwd
  go_enter Try.func13, Try.ntmps13
  go_upto_region 1 with fail
  rw [← HW.out]
  go_wp2_with fail
  refine CG.out.mono ?_
  rintro e w1 ⟨rfl, hb⟩
  have B1 := hide hb
  have B2 := hide (B0.out.trans (hb.mono B0.out.size))
  clear hb
  go_wp2_with fail
  refine (CW.out _).mono ?_
  rintro e w2 ⟨rfl, rfl⟩
  clear k0 k1 k2 k3
  obtain ⟨k0, k1, k2, k3⟩ := blk4 (blk_kept G0.out B1.out)
  have F1 := hide (F0.out.below B1.out)
  go_wp2
  go_loop [20] (fun t => ∃ k : Nat, k ≤ n ∧ t = .int .i64 k ∧ Hid (∀ j, j < k → na h j ≠ s)) (fun t => n - (intOf t).toNat)
  case atStart => exact ⟨0, Nat.zero_le _, rfl, fun j hj => absurd hj (Nat.not_lt_zero _)⟩
  case round =>
    obtain ⟨k, hk, rfl, HJ⟩ := hrel
    by_cases hlt : k < n
    · have hltI : (k : Int) < (n : Int) := by omega
      have hk0 : (0 : Int) ≤ (k : Int) := by omega
      obtain ⟨ba, oa, rfl, hc⟩ := F1.out.sN k (by rw [F1.out.ln]; exact hlt)
      obtain ⟨p, hp⟩ : ∃ p, p = na h k := ⟨_, rfl⟩
      rw [show h.nm.getD k e0 = p from hp.symm] at hc
      have HP := hide hp
      clear hp
      by_cases hps : p = s
      · have hxk : x = ca h k := HCN.out.yes k hlt (by rw [← HP.out]; exact hps)
        have hxb : 0 ≤ x ∧ x ≤ 100000 := by rw [hxk]; exact HMN2.out k hlt
        obtain ⟨bc, oc, rfl, hd⟩ := F1.out.sC k (by rw [F1.out.lc]; have := HMN.out; omega)
        rw [show h.ct.getD k 0 = x from hxk.symm] at hd
        have hkI : (k : Int) < (m : Int) := by have := HMN.out; omega
        subst hps
        clear hxk
        have hee : (p.toList == p.toList) = true := by simp
        go_upto_region 7 with fail
        go_quiet (fail)
        have B5 := hide (below_drewH B2.out nq)
        go_wp2
        refine bodyPost_ret (v := .tuple #[.int .i64 x, .int .i64 (x + G), .bool true]) (by simp [results, Try.f13, go_sem]) rfl ⟨rfl, B5.out⟩
      · have hbe : (p.toList == s.toList) = false := by
          cases e : (p.toList == s.toList) with
          | false => rfl
          | true => exact absurd (ptr_eq.1 (beq_iff_eq.1 e)) hps
        have hbe2 : ¬ p.toList = s.toList := fun e => hps (ptr_eq.1 e)
        go_wp2
        go_round
        case rel => exact ⟨k + 1, by omega, by go_num, fun j hj => by
          by_cases e : j = k
          · subst e; rw [← HP.out]; exact hps
          · exact HJ.out j (by omega)⟩
        case measure => simp [intOf]; omega
    · obtain rfl : k = n := by omega
      have hltI : ¬ (k : Int) < (k : Int) := by omega
      obtain rfl : x = 0 := HCN.out.no HJ.out
      go_upto_region 9 with fail
      go_quiet (fail)
      have B5 := hide (below_drewH B2.out nq)
      go_wp2
      refine bodyPost_ret (v := .tuple #[.int .i64 0, .int .i64 G, .bool true]) (by simp [results, Try.f13, go_sem]) rfl ⟨rfl, B5.out⟩
end Go.Proofs.Ytfmfnlpajoikmao.L15H
