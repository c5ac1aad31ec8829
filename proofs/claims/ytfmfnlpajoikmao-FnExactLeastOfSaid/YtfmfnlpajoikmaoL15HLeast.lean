/-
  Contract: impl.LeastOf.
-/
import Derived.Test.YtfmfnlpajoikmaoL15HFind
import Derived.Test.YtfmfnlpajoikmaoL15HGd
import Derived.Deep.DeepCutAuto
import Derived.Deep.QuietTactic
import Derived.BigQuiet
import Derived.Test.YtfmfnlpajoikmaoL15HSum
namespace Go.Proofs.Ytfmfnlpajoikmao.L15H
open Go.RowKit L1 Own Str
set_option linter.unusedVariables false

set_option maxRecDepth 100000 in
set_option maxHeartbeats 8000000 in
theorem leastOf_any (a : Option Addr) (n c : Nat) (b : Option Addr) (m d : Nat) (G T : Int) (h : Hv) (s : ByteArray) (w : World) (hf : HF w a b n m h) (hcp : n ≤ c) (hg : h.g = G) (ht : h.t = T) (hn2 : n ≤ 1048576) (hm2 : m ≤ 1048576) (htx : ∀ i, i < h.nm.length → (h.nm.getD i e0).size ≤ 1048576) (hsS : s.size ≤ 9223372036854775807) (ok : Bool) (hok : ok = true ↔ GoodHv h n m ∧ L3.Word false s) (x y : Int) (hx : ok = true → CntIs h n s x ∧ y = x + G) (hx0 : ok = false → x = 0 ∧ y = 0) :
    Calls Try.prog 14 #[.agg #[.slice a n c, .slice b m d, .int .i64 G, .int .i64 T], .string s] w fun e w' => e = .returned (.tuple #[.int .i64 x, .int .i64 y, .bool ok]) ∧ Below w.heap.size w w' := by
  have BX := (Below.refl w.heap.size w).alloc (Nat.le_refl _) (hvO (.slice a n c) (.slice b m d) G T)
  have g0 := L8.blk_new w (hvO (.slice a n c) (.slice b m d) G T)
  obtain ⟨W0, hW0⟩ : ∃ W0, W0 = w.alloc (hvO (.slice a n c) (.slice b m d) G T) := ⟨_, rfl⟩
  rw [← hW0] at BX g0
  obtain ⟨k0, k1, k2, k3⟩ := blk4 g0
  have HW := hide hW0
  have B0 := hide BX
  have G0 := hide g0
  have F0 := hide (hf.below BX)
  by_cases hgd : GoodHv h n m
  rotate_left
  · have hfo : ok = false := bool_noG hok (fun q => hgd q.1)
    obtain ⟨rfl, rfl⟩ := hx0 hfo
    subst hfo
    have CG := hide (goodHeavy_any a n c b m d G T h W0 F0.out hg ht hn2 hm2 htx false ⟨fun q => (by cases q), fun q => absurd q hgd⟩)
    clear hok hx hx0 hf BX g0 hW0 hg ht
    go_enter Try.func14, Try.ntmps14
    go_upto_region 1 with fail
    rw [← HW.out]
    go_wp2_with fail
    refine CG.out.mono ?_
    rintro e w1 ⟨rfl, hb⟩
    have B1 := hide (B0.out.trans (hb.mono B0.out.size))
    clear hb
    go_wp2
    refine bodyPost_ret (v := .tuple #[.int .i64 0, .int .i64 0, .bool false]) (by simp [results, Try.f14, go_sem]) rfl ⟨rfl, B1.out⟩
  have CG := hide (goodHeavy_any a n c b m d G T h W0 F0.out hg ht hn2 hm2 htx true ⟨fun _ => hgd, fun _ => rfl⟩)
  have HGD := hide hgd
  have CW := hide (fun wx => L3.isName_any s wx hsS ok ⟨fun q => (hok.1 q).2, fun q => hok.2 ⟨hgd, q⟩⟩)
  cases ok with
  | false =>
    obtain ⟨rfl, rfl⟩ := hx0 rfl
    clear hok hx hx0 hf BX g0 hW0 hg ht hgd
    go_enter Try.func14, Try.ntmps14
    go_upto_region 1 with fail
    rw [← HW.out]
    go_wp2_with fail
    refine CG.out.mono ?_
    rintro e w1 ⟨rfl, hb⟩
    have B1 := hide (B0.out.trans (hb.mono B0.out.size))
    clear hb
    go_wp2_with fail
    refine (CW.out _).mono ?_
    rintro e w2 ⟨rfl, hb2⟩
    have B2 := hide (B1.out.trans (hb2.mono B1.out.size))
    go_wp2
    refine bodyPost_ret (v := .tuple #[.int .i64 0, .int .i64 0, .bool false]) (by simp [results, Try.f14, go_sem]) rfl ⟨rfl, B2.out⟩
  | true =>
  have hwd := (hok.1 rfl).2
  obtain ⟨hcn, rfl⟩ := hx rfl
  have hn1 := hgd.n1
  have hn6 := hgd.n6
  have hGb : 0 ≤ G ∧ G ≤ 100000 := by rw [← hg]; exact ⟨hgd.g0, hgd.g1⟩
  have HMN := hide hgd.m
  obtain ⟨tk, htk⟩ := tk_ex h.nm n
  have hrise := hgd.rise htk
  have HTK := hide htk
  have HCN := hide hcn
  have hsne := word_ne hwd
  obtain ⟨p, hp⟩ := at_ex s tk hrise
  obtain ⟨fo, hfo⟩ := dec_exH (p < tk ∧ na h p = s)
  have CF := hide (fun wx (hb : Below W0.heap.size W0 wx) => findPlace_any a n c b m d G T h s tk p fo wx (F0.out.below hb) (by omega) hn2 hcp htk hrise hp hfo)
  -- what is found is what is told
  have hxf : fo = true → x = ca h p ∧ p < n := fun q => by
    obtain ⟨h1, h2⟩ := hfo.1 q
    have := htk.le
    exact ⟨hcn.yes p (by omega) h2, by omega⟩
  have hxn : fo = false → x = 0 := fun q => hcn.no (fun i hi ei => by
    have hik : i < tk := by
      rcases Nat.lt_or_ge i tk with h1 | h1
      · exact h1
      · exact absurd (ei.symm.trans (hgd.tail htk i h1 hi).1) hsne
    have hpi : p = i := by
      rcases Nat.lt_trichotomy p i with h1 | h1 | h1
      · have h2 := hrise p i h1 hik
        rw [show h.nm.getD i e0 = s from ei] at h2
        exact absurd h2 (hp.hi p (Nat.le_refl _) (by omega))
      · exact h1
      · have h2 := hp.lo i h1
        rw [show h.nm.getD i e0 = s from ei] at h2
        exact absurd h2 (ahead_irrefl s)
    have := hfo.2 ⟨by omega, by rw [hpi]; exact ei⟩
    rw [q] at this
    cases this)
  have hxb : 0 ≤ x ∧ x ≤ 100000 := by
    cases hq : fo with
    | true => obtain ⟨h1, h2⟩ := hxf hq; rw [h1]; exact (hgd.p p h2).ct
    | false => rw [hxn hq]; omega
  have HXF := hide hxf
  have HXN := hide hxn
  clear hok hx hx0 hf BX g0 hW0 hg ht hgd htk hrise hp hfo hcn hxf hxn hsne hwd
  go_enter Try.func14, Try.ntmps14
  go_upto_region 1 with fail
  rw [← HW.out]
  go_wp2_with fail
  refine CG.out.mono ?_
  rintro e w1 ⟨rfl, hb⟩
  have B1 := hide hb
  clear hb
  go_wp2_with fail
  refine (CW.out _).mono ?_
  rintro e w2 ⟨rfl, hb2⟩
  have B2 := hide (B1.out.trans (hb2.mono B1.out.size))
  clear hb2 k0 k1 k2 k3
  obtain ⟨k0, k1, k2, k3⟩ := blk4 (blk_kept G0.out B2.out)
  go_wp2_with fail
  refine (CF.out _ B2.out).mono ?_
  rintro e w3 ⟨rfl, hb3⟩
  have B3 := hide (B2.out.trans (hb3.mono B2.out.size))
  have B4 := hide (B0.out.trans (B3.out.mono B0.out.size))
  clear hb3 k0 k1 k2 k3
  obtain ⟨k0, k1, k2, k3⟩ := blk4 (blk_kept G0.out B3.out)
  cases fo with
  | true =>
    obtain ⟨hxc, hpn⟩ := HXF.out rfl
    obtain ⟨bc, oc, rfl, hd⟩ := (F0.out.below B3.out).sC p (by rw [F0.out.lc]; have := HMN.out; omega)
    rw [show h.ct.getD p 0 = x from hxc.symm] at hd
    have hpI : (p : Int) < (m : Int) := by have := HMN.out; omega
    have hp0 : (0 : Int) ≤ (p : Int) := by omega
    clear hxc
    go_upto_region 7 with fail
    go_quiet (fail)
    have B5 := hide (below_drewH B4.out nq)
    go_wp2
    refine bodyPost_ret (v := .tuple #[.int .i64 x, .int .i64 (x + G), .bool true]) (by simp [results, Try.f14, go_sem]) rfl ⟨rfl, B5.out⟩
  | false =>
    obtain rfl : x = 0 := HXN.out rfl
    go_upto_region 7 with fail
    go_quiet (fail)
    have B5 := hide (below_drewH B4.out nq)
    go_wp2
    refine bodyPost_ret (v := .tuple #[.int .i64 0, .int .i64 (0 + G), .bool true]) (by simp [results, Try.f14, go_sem]) rfl ⟨rfl, B5.out⟩
end Go.Proofs.Ytfmfnlpajoikmao.L15H
