/-
  Contract of the laws' own helper laws.markNodeS: it writes rising numbers into nodes that lie in memory of their own, and into nothing else.
-/
import Derived.Test.YtapffbbmofhpobcL8Nd
import Derived.Test.YtapffbbmofhpobcL4IntMarks
namespace Go.Proofs.Ytapffbbmofhpobc.L8
open Go.RowKit L1 L4
set_option linter.unusedVariables false

/-- The number that a node's marks begin with. -/
def kn (c : Int) (L : List Nd) : Nat → Int
  | 0 => c
  | i + 1 => kn c L i + 4 + ((gn L i).h.length : Int)
/-- The marks of nodes. -/
def mkn (c : Int) (L : List Nd) (i : Nat) : Nd := ⟨kn c L i, kn c L i + 1, kn c L i + 2, mkC (kn c L i + 3) (gn L i).h.length, kn c L i + 3 + ((gn L i).h.length : Int)⟩
def mkns (c : Int) (L : List Nd) : List Nd := (List.range L.length).map (mkn c L)
theorem mkns_len (c : Int) (L : List Nd) : (mkns c L).length = L.length := by simp [mkns]
theorem mkns_get (c : Int) (L : List Nd) (i : Nat) (h : i < L.length) : gn (mkns c L) i = mkn c L i := by simp [gn, mkns, List.getD, h]
theorem kn_pos (c : Int) (hc : 0 ≤ c) (L : List Nd) : ∀ i, 0 ≤ kn c L i
  | 0 => hc
  | i + 1 => by have := kn_pos c hc L i; unfold kn; omega

set_option maxRecDepth 100000 in
set_option maxHeartbeats 4000000 in
theorem markNodeS_any (c0 : Int) (hc0 : 0 ≤ c0) (base hi : Nat) (v : Value) (n : Nat) (M : List NV) (L : List Nd) (w : World) (hML : nds M = L) (hn2 : n ≤ 1048576) (hk : ∀ i, i ≤ n → kn c0 L i ≤ 2147483648) (hX : ∀ i, i < n → (gn L i).h.length ≤ 1048576) (hin : InN hi v n M) (ho : OwN w base v n M) :
    Calls Try.prog 43 #[v, .int .i64 c0] w fun e w' => e = .returned (.int .i64 (kn c0 L n)) ∧ (∃ M', nds M' = mkns c0 L ∧ OwN w' base v n M') ∧ Only base hi w w' := by
  have hLn : L.length = n := by rw [← hML]; simpa using ho.len
  obtain ⟨a, cap, rfl, _⟩ := ho.form
  by_cases hn0 : n = 0
  · subst hn0
    have hL0 : L = [] := List.eq_nil_of_length_eq_zero hLn
    have hM0 : M = [] := List.eq_nil_of_length_eq_zero ho.len
    subst hL0 hM0
    have O := hide ho
    clear ho hML hk hX hin hLn
    go_enter Try.func43, Try.ntmps43
    go_wp2
    go_loop [1, 5] (fun k i => k = .int .i64 c0 ∧ i = .int .i64 0) (fun _ _ => 0)
    case atStart => exact ⟨rfl, rfl⟩
    case round =>
      obtain ⟨rfl, rfl⟩ := hrel
      go_wp2
      go_ret
      exact ⟨rfl, ⟨[], rfl, O.out⟩, Only.refl _ _ _⟩
  · obtain ⟨g, rfl⟩ : ∃ g, a = some ⟨g, 0, none⟩ := by
      rcases ho.row.2 with ⟨_, h0⟩ | ⟨g, cap2, cur, hv, _⟩
      · omega
      · cases hv; exact ⟨g, rfl⟩
    have hgr : base ≤ g ∧ g < hi := ⟨(own_lt ho.row g rfl).1, hin.row g rfl⟩
    have O := hide ho
    have HML := hide hML
    have HLN := hide hLn
    have HK := hide hk
    have HX := hide hX
    have HI := hide hin
    clear ho hML hk hX hin hLn hn0
    go_enter Try.func43, Try.ntmps43
    go_wp2
    go_loopw [1, 5] (fun k i wr => ∃ (j : Nat) (N : List NV), j ≤ n ∧ i = .int .i64 j ∧ k = .int .i64 (kn c0 L j) ∧ Hid (∀ t, t < j → (N.getD t eNV).1 = mkn c0 L t) ∧ Hid (∀ t, j ≤ t → t < n → N.getD t eNV = M.getD t eNV) ∧ Hid (∀ t, t < n → (N.getD t eNV).2 = (M.getD t eNV).2) ∧ OwN wr base (.slice (some ⟨g, 0, none⟩) n cap) n N ∧ Only base hi w wr) (fun _ i _ => n - (intOf i).toNat)
    case atStart => exact ⟨0, M, Nat.zero_le _, rfl, rfl, fun t ht => absurd ht (Nat.not_lt_zero _), fun t _ _ => rfl, fun t _ => rfl, O.out, Only.refl _ _ _⟩
    case round =>
      obtain ⟨j, N, hj, rfl, rfl, H1, H2, H3, hown, honly⟩ := hrel
      by_cases hlt : j < n
      · have hltI : (j : Int) < (n : Int) := by omega
        have hpos := kn_pos c0 hc0 L j
        have hkle := HK.out (j + 1) (by omega)
        have hkn : kn c0 L (j + 1) = kn c0 L j + 4 + ((gn L j).h.length : Int) := rfl
        have hxl := HX.out j hlt
        have hl := hown.len
        have hMj : (N.getD j eNV) = M.getD j eNV := H2.out j (Nat.le_refl _) hlt
        have hgc : (M.getD j eNV).1 = gn L j := by
          have := nds_get M j (by rw [O.out.len]; exact hlt)
          rw [HML.out] at this
          exact this.symm
        obtain ⟨c, hc⟩ : ∃ c, c = kn c0 L j := ⟨_, rfl⟩
        obtain ⟨m, hm⟩ : ∃ m, m = (gn L j).h.length := ⟨_, rfl⟩
        rw [← hc]
        rw [← hc] at hpos hkn
        rw [hkn, ← hm] at hkle
        rw [← hm] at hxl
        obtain ⟨q, hq⟩ : ∃ q, q = N.getD j eNV := ⟨_, rfl⟩
        have hfl : ∀ K : List NV, K.length = n → (flatN K).length = n * 5 := fun K hK => by rw [flatN_len, hK]
        -- Term, Voted, Age
        have P0 := hown.setI j hlt 0 (by omega) (.int .i64 c) ⟨c, q.1.v, q.1.a, q.1.h, q.1.r⟩ (by rw [← hq]; rfl) (by rw [← hq])
        rw [← hq, Nat.add_zero] at P0
        have P1 := P0.1.setI j hlt 1 (by omega) (.int .i64 (c + 1)) ⟨c, c + 1, q.1.a, q.1.h, q.1.r⟩ (by rw [getD_self N j _ _ (by omega)]; rfl) (by rw [getD_self N j _ _ (by omega)])
        rw [getD_self N j _ _ (by omega), set_twice] at P1
        have P2 := P1.1.setI j hlt 2 (by omega) (.int .i64 (c + 1 + 1)) ⟨c, c + 1, c + 1 + 1, q.1.h, q.1.r⟩ (by rw [getD_self N j _ _ (by omega)]; rfl) (by rw [getD_self N j _ _ (by omega)])
        rw [getD_self N j _ _ (by omega), set_twice] at P2
        simp only at P1 P2
        have fr0 := hown.row.frozenAt (j * 5)
        have fr1 := P0.1.row.frozenAt (j * 5 + 1)
        have fr2 := P1.1.row.frozenAt (j * 5 + 2)
        obtain ⟨v0, hv0⟩ : ∃ v, wr.cell? ⟨g, j * 5, none⟩ = some v := ⟨_, (hown.row.cellAt (j * 5) (by omega)).trans (List.getElem?_eq_getElem (by rw [hfl N hl]; omega))⟩
        obtain ⟨v1, hv1⟩ : ∃ v, (wr.setCell ⟨g, j * 5, none⟩ (.int .i64 c)).cell? ⟨g, j * 5 + 1, none⟩ = some v := ⟨_, (P0.1.row.cellAt (j * 5 + 1) (by omega)).trans (List.getElem?_eq_getElem (by rw [hfl _ P0.1.len]; omega))⟩
        obtain ⟨v2, hv2⟩ : ∃ v, ((wr.setCell ⟨g, j * 5, none⟩ (.int .i64 c)).setCell ⟨g, j * 5 + 1, none⟩ (.int .i64 (c + 1))).cell? ⟨g, j * 5 + 2, none⟩ = some v := ⟨_, (P1.1.row.cellAt (j * 5 + 2) (by omega)).trans (List.getElem?_eq_getElem (by rw [hfl _ P1.1.len]; omega))⟩
        -- Heard
        have hidx := P2.1.idx j hlt
        rw [getD_self N j _ _ (by omega)] at hidx
        simp only at hidx
        rw [show q.1.h = (gn L j).h by rw [hq, hMj, hgc], ← hm] at hidx
        obtain ⟨ai, ci, hvi, _, _⟩ := own_form hidx
        have hg3 := (flatN_get (N.set j (⟨c, c + 1, c + 1 + 1, q.1.h, q.1.r⟩, q.2)) j (by simp; omega)).2.2.2.1
        rw [getD_self N j _ _ (by omega)] at hg3
        simp only at hg3
        have hk3 := (P2.1.row.cellAt (j * 5 + 3) (by omega)).trans hg3
        rw [hvi] at hk3
        rw [hvi] at hidx
        have CX := hide (markIntS_from base (.slice ai m ci) (gn L j).h m (((wr.setCell ⟨g, j * 5, none⟩ (.int .i64 c)).setCell ⟨g, j * 5 + 1, none⟩ (.int .i64 (c + 1))).setCell ⟨g, j * 5 + 2, none⟩ (.int .i64 (c + 1 + 1))) (c + 1 + 1 + 1) (by omega) (by omega) (by omega) hidx)
        have HP2 := hide P2.1
        have HG2 := hide ((honly.grown P0.2 (fun q hq => by cases hq; exact hgr)).grown (P1.2.trans P2.2) (fun q hq => by cases hq; exact hgr))
        have HKN := hide hkn
        have HQ := hide hq
        have HMJ := hide hMj
        have HVI := hide hvi
        have HM := hide hm
        have HC := hide hc
        have HL := hide hl
        clear P0 P1 P2 hkn hMj hgc hm hc hl hown honly hidx hg3 hvi hq hfl
        go_wp2_with fail
        refine CX.out.mono ?_
        rintro e w2 ⟨rfl, ho2, hb2, hg2⟩
        have O3 := HP2.out.setX j hlt (mkC (c + 1 + 1 + 1) m) (by
          rw [getD_self N j _ _ (by rw [HL.out]; exact hlt)]
          show w2.ownsRow base _ 1 q.2 _ _
          rw [HVI.out, mkC_len]
          exact ho2) (by
          rw [getD_self N j _ _ (by rw [HL.out]; exact hlt)]
          show World.grownBy _ _ q.2.ownBlock
          rw [HVI.out]
          exact hg2)
        rw [getD_self N j _ _ (by rw [HL.out]; exact hlt), set_twice] at O3
        simp only at O3
        have P4 := O3.setI j hlt 4 (by omega) (.int .i64 (c + 1 + 1 + 1 + (m : Int))) ⟨c, c + 1, c + 1 + 1, mkC (c + 1 + 1 + 1) m, c + 1 + 1 + 1 + (m : Int)⟩ (by rw [getD_self N j _ _ (by rw [HL.out]; exact hlt)]; rfl) (by rw [getD_self N j _ _ (by rw [HL.out]; exact hlt)])
        rw [getD_self N j _ _ (by rw [HL.out]; exact hlt), set_twice] at P4
        simp only at P4
        have fr4 := O3.row.frozenAt (j * 5 + 4)
        have hfl4 : (flatN (N.set j (⟨c, c + 1, c + 1 + 1, mkC (c + 1 + 1 + 1) m, q.1.r⟩, q.2))).length = n * 5 := by rw [flatN_len, O3.len]
        obtain ⟨v4, hv4⟩ : ∃ v, w2.cell? ⟨g, j * 5 + 4, none⟩ = some v := ⟨_, (O3.row.cellAt (j * 5 + 4) (by omega)).trans (List.getElem?_eq_getElem (by rw [hfl4]; omega))⟩
        have ON4 := (HG2.out.grown hg2 (fun q' hq' => by
          have e1 : (M.getD j eNV).2.ownBlock = some q' := by rw [← HMJ.out, ← HQ.out, HVI.out]; exact hq'
          exact ⟨(own_lt (O.out.idx j hlt) q' e1).1, HI.out.idx j hlt q' e1⟩)).grown P4.2 (fun q hq => by cases hq; exact hgr)
        have R : ∃ (j' : Nat) (N' : List NV), j' ≤ n ∧ Value.int .i64 ((j : Int) + 1) = .int .i64 j' ∧ Value.int .i64 (c + 1 + 1 + 1 + (m : Int) + 1) = .int .i64 (kn c0 L j') ∧ Hid (∀ t, t < j' → (N'.getD t eNV).1 = mkn c0 L t) ∧ Hid (∀ t, j' ≤ t → t < n → N'.getD t eNV = M.getD t eNV) ∧ Hid (∀ t, t < n → (N'.getD t eNV).2 = (M.getD t eNV).2) ∧ OwN (w2.setCell ⟨g, j * 5 + 4, none⟩ (.int .i64 (c + 1 + 1 + 1 + (m : Int)))) base (.slice (some ⟨g, 0, none⟩) n cap) n N' ∧ Only base hi w (w2.setCell ⟨g, j * 5 + 4, none⟩ (.int .i64 (c + 1 + 1 + 1 + (m : Int)))) := by
          refine ⟨j + 1, _, by omega, by simp, ?_, fun t ht => ?_, fun t h1 h2 => ?_, fun t ht => ?_, P4.1, ON4⟩
          · rw [HKN.out, ← HM.out]
            congr 1
            omega
          · by_cases e : t = j
            · subst e
              rw [getD_self N t _ _ (by rw [HL.out]; exact hlt)]
              show (⟨c, c + 1, c + 1 + 1, mkC (c + 1 + 1 + 1) m, c + 1 + 1 + 1 + (m : Int)⟩ : Nd) = mkn c0 L t
              unfold mkn
              rw [← HC.out, ← HM.out, show c + 1 + 1 + 1 = c + 3 by omega, show c + 1 + 1 = c + 2 by omega]
            · rw [getD_ne N j t _ _ e]
              exact H1.out t (by omega)
          · rw [getD_ne N j t _ _ (by omega)]
            exact H2.out t (by omega) h2
          · by_cases e : t = j
            · subst e
              rw [getD_self N t _ _ (by rw [HL.out]; exact hlt)]
              show q.2 = _
              rw [HQ.out]
              exact H3.out t ht
            · rw [getD_ne N j t _ _ e]
              exact H3.out t ht
        have HR := hide R
        clear R O3 ON4 ho2 hb2 hg2 P4 hfl4
        go_wp2
        go_roundw
        case rel => exact HR.out
        case measure => simp [intOf]; omega
      · obtain rfl : j = n := by omega
        have hltI : ¬ (j : Int) < (j : Int) := by omega
        have E : nds N = mkns c0 L := by
          refine list_sameN hown.len (by rw [mkns_len]; exact HLN.out) (fun t ht => ?_)
          rw [mkns_get c0 L t (by rw [HLN.out]; exact ht)]
          exact H1.out t ht
        obtain ⟨c, hc⟩ : ∃ c, c = kn c0 L j := ⟨_, rfl⟩
        rw [← hc]
        have HC := hide hc
        have HE := hide E
        have HO := hide hown
        have HON := hide honly
        clear E hown honly hc
        go_wp2
        go_ret
        exact ⟨by rw [← HC.out]; rfl, ⟨N, HE.out, HO.out⟩, HON.out⟩
end Go.Proofs.Ytapffbbmofhpobc.L8
