/-
  Contract: the draw of entries, starts and an end.
-/
import Derived.Test.YtdnmklcnlndmhacL7DrawT
import Derived.Test.YtdnmklcnlndmhacL7SStartsOf
namespace Go.Proofs.Ytdnmklcnlndmhac.L7
open Go.RowKit L1
set_option linter.unusedVariables false

/-- Some starts that the caller owns. -/
def OwnSt (w : World) (B : Nat) (v : Value) (m : Nat) : Prop := ∃ l : List (Int × Int), l.length ≤ m ∧ w.ownsRow B 39 2 v l.length (flatS l)
theorem en_sizes {l : List En} {M : Int} (h : ∀ p ∈ l, (0 ≤ p.1 ∧ p.1 ≤ M) ∧ p.2.size ≤ 20) : ∀ j, j < l.length → (l.getD j eE).2.size ≤ 9223372036854775807 := fun j hj => by
  have := (h (l.getD j eE) (by rw [show l.getD j eE = l[j] by simp [List.getD, List.getElem?_eq_getElem hj]]; exact List.getElem_mem hj)).2
  omega
set_option maxRecDepth 100000 in
set_option maxHeartbeats 2000000 in
theorem drawFindPart_any (a : Option Addr) (n cap : Nat) (w : World) (h : Slb w w.heap.size a n) (hn : n ≤ 1048576) :
    Calls Try.prog 24 #[.slice a n cap] w fun e w' => ∃ v1 vs x, e = .returned (.tuple #[v1, vs, .int .i64 x]) ∧ OwnEn w' w.heap.size v1 41 2000 ∧ OwnSt w' w.heap.size vs 40 ∧ (0 ≤ x ∧ x ≤ 45) ∧ Below w.heap.size w w' := by
  have HC := hide (cur_new (cap := cap) h hn)
  clear h
  obtain ⟨W0, hW0⟩ : ∃ W0, w.alloc (Obj.cells #[.slice a n cap, .int .i64 0, .int .u64 0] 53) = W0 := ⟨_, rfl⟩
  have hz0 : w.heap.size < W0.heap.size := by rw [← hW0]; simp
  have hFB : ∀ w', W0.grownBy w' (some w.heap.size) → Below w.heap.size w w' := fun w' hg => by rw [← hW0] at hg; exact grown_to_below hg
  rw [hW0] at HC
  have HFB := hide hFB
  have HW := hide hW0
  clear hW0 hFB
  go_enter Try.func24, Try.ntmps24
  go_wp2_with fail
  rw [HW.out]
  refine (twoLogs_any _ 0 _ HC.out (by omega)).mono ?_
  rintro e w1 ⟨v1, v2, rfl, h1, h2, hc1, hg1⟩
  obtain ⟨m, hm, hmp, hmo⟩ := h2
  obtain ⟨k, hk⟩ : ∃ k, k = m.length := ⟨_, rfl⟩
  rw [← hk] at hm hmo
  obtain ⟨ba, bc, rfl, hbc, _⟩ := own_shape7 hmo
  have HK := hide hk.symm
  have O1 := hide h1
  have C1 := hide hc1
  have G1 := hide hg1
  have hle := stsR_len m
  obtain ⟨r, hr⟩ : ∃ r, r = stsR m := ⟨_, rfl⟩
  have c1 := specStartsOf_any ba m k bc w1 HK.out (own_slE hmo) (by omega) (en_sizes hmp) r hr
  rw [← hr] at hle
  obtain ⟨ys, hy⟩ : ∃ ys, ys = r.getD [] := ⟨_, rfl⟩
  obtain ⟨q, hq⟩ : ∃ q, q = ys.length := ⟨_, rfl⟩
  obtain ⟨ok, hok⟩ : ∃ ok, ok = r.isSome := ⟨_, rfl⟩
  simp only [RetT7, ← hy, ← hq, ← hok] at c1
  rw [← hy, ← hq] at hle
  have CS := hide c1
  have HQ := hide hq.symm
  have hz1 := hg1.size
  clear h1 hc1 hg1 hk hr hy hq hok c1 hmp hmo
  go_wp2_with fail
  refine CS.out.mono ?_
  rintro e w2 ⟨vs, rfl, ho2, hb2⟩
  obtain ⟨sa, sc, rfl, hsc, _⟩ := own_shape7 ho2
  have O2 := hide (O1.out.below hb2)
  have C2 := hide (C1.out.below hb2)
  have G2 := hide (grown_trans G1.out (below_grown hb2))
  have P2 := hide (own_baseT ho2 hz1)
  have HLT : Hid (∀ g, (Value.slice sa q sc).ownBlock = some g → w1.heap.size ≤ g) := fun g hg => (ho2.lt g hg).1
  have O1L : Hid (OwnEn w2 W0.heap.size v1 41 2000) := O2.out
  have HLA : Hid (∀ g, v1.ownBlock = some g → g < w1.heap.size) := fun g hg => by
    obtain ⟨l, _, _, ho⟩ := O1.out
    exact (ho.lt g hg).2
  clear ho2 hb2 O1 C1 G1 CS
  by_cases hq0 : 0 < (q : Int)
  · obtain ⟨g, c', e'⟩ : ∃ g c, Value.slice sa q sc = .slice (some ⟨g, 0, none⟩) q c := by
      rcases P2.out.2 with ⟨_, h0⟩ | ⟨g, cap, cur, hv, _⟩
      · omega
      · exact ⟨g, cap, hv⟩
    cases e'
    have hgw := HLT.out g rfl
    go_wp2_with fail
    refine (one_any _ _ 12 _ C2.out (by omega) (by omega) (by omega)).mono ?_
    rintro e w3 ⟨t3, rfl, hc3, hg3⟩
    have C3 := hide hc3
    have G3 := hide (grown_trans G2.out hg3)
    have P3 := hide (own_grown4 P2.out hg3 hz0)
    have O3 := hide (O2.out.grown hg3 hz0)
    clear hc3 hg3 C2 G2 P2 O2 O1L
    cases t3 with
    | true =>
      go_wp2_with fail
      refine (pick_any _ _ (q : Int) _ C3.out (by omega) (by omega) (by omega)).mono ?_
      rintro e w4 ⟨x4, rfl, hx4, _, hx4', hc4, hg4⟩
      have hx4'' := hx4' (by omega)
      obtain ⟨j, rfl⟩ : ∃ j : Nat, x4 = (j : Int) := ⟨x4.toNat, by omega⟩
      have C4 := hide hc4
      have G4 := hide (grown_trans G3.out hg4)
      have P4 := hide (own_grown4 P3.out hg4 hz0)
      have O4 := hide (O3.out.grown hg4 hz0)
      clear hc4 hg4 C3 G3 P3 O3 hx4'
      go_wp2_with fail
      refine (pick_any _ _ 5 _ C4.out (by omega) (by omega) (by omega)).mono ?_
      rintro e w5 ⟨x5, rfl, hx5, _, _, hc5, hg5⟩
      have G5 := grown_trans G4.out hg5
      have P5 := own_grown4 P4.out hg5 hz0
      have O5 := O4.out.grown hg5 hz0
      have hfl : (flatS ys).length = q * 2 := by rw [flatS_len, HQ.out]
      have hcl := P5.cellAt (j * 2 + 1) (by omega)
      have hfr := P5.frozenAt (j * 2 + 1)
      obtain ⟨u, hu⟩ : ∃ u, w5.cell? ⟨g, j * 2 + 1, none⟩ = some u := ⟨_, hcl.trans (List.getElem?_eq_getElem (by omega))⟩
      have hs1 := P5.stored (j * 2 + 1) (.int .i64 x5)
      have hbs := (Below.refl w1.heap.size w5).setCell (p := ⟨g, j * 2 + 1, none⟩) hgw (.int .i64 x5)
      have S9 : Hid (OwnSt (w5.setCell ⟨g, j * 2 + 1, none⟩ (.int .i64 x5)) w.heap.size (.slice (some ⟨g, 0, none⟩) q sc) 40) := by
        refine ⟨ys.set j ((ys.getD j (0, 0)).1, x5), by rw [List.length_set, HQ.out]; omega, ?_⟩
        rw [List.length_set, HQ.out, flatS_set]
        have hf := (flatS_get ys j (by rw [HQ.out]; omega)).1
        have hsame : ((flatS ys).set (j * 2) (.int .i64 (ys.getD j (0, 0)).1)) = flatS ys := by
          apply List.ext_getElem?
          intro i
          by_cases e : j * 2 = i
          · subst e
            rw [List.getElem?_set_self (by omega), hf]
          · rw [List.getElem?_set_ne e]
        rw [hsame]
        exact own_baseT hs1.1 (by omega)
      have E9 : Hid (OwnEn (w5.setCell ⟨g, j * 2 + 1, none⟩ (.int .i64 x5)) w.heap.size v1 41 2000) := by
        obtain ⟨l, hl, hlp, ho⟩ := O5
        exact ⟨l, hl, hlp, own_baseT (own_belowB ho hbs HLA.out) (by omega)⟩
      have B9 := hide (HFB.out _ (grown_low G5 (hbs.mono hz1)))
      have hjI : (j : Int) < (q : Int) := by omega
      clear G5 P5 O5 hfl hcl hs1 hbs hc5 hg5 C4 G4 P4 O4
      go_wp2
      go_ret3
      exact ⟨_, _, _, rfl, E9.out, S9.out, ⟨by omega, by omega⟩, B9.out⟩
    | false =>
      go_wp2
      go_ret3
      exact ⟨_, _, _, rfl, O3.out.base (by omega), ⟨ys, by rw [HQ.out]; omega, by rw [HQ.out]; exact own_baseT P3.out (by omega)⟩, ⟨by omega, by omega⟩, HFB.out _ G3.out⟩
  · go_wp2
    go_ret3
    exact ⟨_, _, _, rfl, O2.out.base (by omega), ⟨ys, by rw [HQ.out]; omega, by rw [HQ.out]; exact own_baseT P2.out (by omega)⟩, ⟨by omega, by omega⟩, HFB.out _ G2.out⟩
end Go.Proofs.Ytdnmklcnlndmhac.L7
