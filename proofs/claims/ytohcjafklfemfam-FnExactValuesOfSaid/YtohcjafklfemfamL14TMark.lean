/-
  Contract of the laws' own helper laws.markTotalS: it writes rising numbers into rows that lie in memory of their own, and into nothing else.
-/
import Derived.Test.YtohcjafklfemfamL14TMem
import Derived.Test.YtohcjafklfemfamL14TSize
import Derived.Test.YtohcjafklfemfamL3LabMark
namespace Go.Proofs.Ytohcjafklfemfam.L14T
open Go.RowKit L1 L3
set_option linter.unusedVariables false

/-- The number that one's marks begin with. -/
def kt (c : Int) (L : List Rw) : Nat → Int
  | 0 => c
  | i + 1 => kt c L i + 2 * ((gr L i).l.length : Int) + 4
/-- The marks. -/
def mkr (c : Int) (L : List Rw) (i : Nat) : Rw := ⟨mkL (kt c L i) (gr L i).l.length, kt c L i + 2 * ((gr L i).l.length : Int), kt c L i + 2 * ((gr L i).l.length : Int) + 1, kt c L i + 2 * ((gr L i).l.length : Int) + 2, kt c L i + 2 * ((gr L i).l.length : Int) + 3⟩
def mkrs (c : Int) (L : List Rw) : List Rw := (List.range L.length).map (mkr c L)
theorem mkrs_len (c : Int) (L : List Rw) : (mkrs c L).length = L.length := by simp [mkrs]
theorem mkrs_get (c : Int) (L : List Rw) (i : Nat) (h : i < L.length) : gr (mkrs c L) i = mkr c L i := by simp [gr, mkrs, List.getD, h]
theorem kt_pos (c : Int) (hc : 0 < c) (L : List Rw) : ∀ i, 0 < kt c L i
  | 0 => hc
  | i + 1 => by have := kt_pos c hc L i; unfold kt; omega
theorem kt_few (c : Int) (L : List Rw) : ∀ i, i ≤ L.length → kt c L i ≤ c + 2 * (szr (L.take i) : Int) + 4 * (i : Int)
  | 0, _ => by simp [kt, szr]
  | i + 1, h => by
    have ih := kt_few c L i (by omega)
    have e := szr_take L i (by omega)
    have e2 : (L.getD i eR).l.length ≤ wt (L.getD i eR).l := by unfold wt; omega
    unfold kt
    show kt c L i + 2 * ((L.getD i eR).l.length : Int) + 4 ≤ _
    omega
theorem kt_le (c : Int) (L : List Rw) (i : Nat) (h : i ≤ L.length) : kt c L i ≤ c + 4 * (wtR L : Int) := by
  have h1 := kt_few c L i h
  have h2 := szr_le L i
  unfold wtR
  omega
/-- All blocks lie below a number. -/
structure InR (hi : Nat) (v : Value) (n : Nat) (M : List PR) : Prop where
  row : ∀ g, v.ownBlock = some g → g < hi
  idx : ∀ i, i < n → ∀ g, (M.getD i eV).2.ownBlock = some g → g < hi
theorem OwR.inR {w : World} {base n : Nat} {v : Value} {M : List PR} (h : OwR w base v n M) : InR w.heap.size v n M :=
  ⟨fun g hg => (L8.own_lt h.row g hg).2, fun i hi g hg => (L8.own_lt (h.idx i hi) g hg).2⟩
theorem OwR.only {lo hi : Nat} {w w' : World} (h : L8.Only lo hi w w') {base n : Nat} {v : Value} {M : List PR} (ho : OwR w base v n M) (hb : hi ≤ base) : OwR w' base v n M :=
  ⟨ho.len, h.row ho.row hb, fun i hi => h.row (ho.idx i hi) hb, ho.apart⟩

set_option maxRecDepth 100000 in
set_option maxHeartbeats 4000000 in
theorem markTotalS_any (c0 : Int) (hc0 : 0 < c0) (base hi : Nat) (v : Value) (n : Nat) (M : List PR) (L : List Rw) (w : World) (hML : rws M = L) (hn2 : n ≤ 1048576) (hk : ∀ i, i ≤ n → kt c0 L i ≤ 1073741824) (hX : ∀ i, i < n → (gr L i).l.length ≤ 1048576) (hin : InR hi v n M) (ho : OwR w base v n M) (hbw : base ≤ w.heap.size) :
    Calls Try.prog 18 #[v, .int .i64 c0] w fun e w' => e = .returned (.int .i64 (kt c0 L n)) ∧ (∃ M', rws M' = mkrs c0 L ∧ OwR w' base v n M') ∧ L8.Only base hi w w' := by
  have hLn : L.length = n := by rw [← hML]; simpa using ho.len
  obtain ⟨a, cap, rfl, _⟩ := ho.form
  by_cases hn0 : n = 0
  · subst hn0
    have hL0 : L = [] := List.eq_nil_of_length_eq_zero hLn
    have hM0 : M = [] := List.eq_nil_of_length_eq_zero ho.len
    subst hL0 hM0
    have O := hide ho
    clear ho hML hk hX hin hLn
    go_enter Try.func18, Try.ntmps18
    go_wp2
    go_loop [1, 5] (fun k i => k = .int .i64 c0 ∧ i = .int .i64 0) (fun _ _ => 0)
    case atStart => exact ⟨rfl, rfl⟩
    case round =>
      obtain ⟨rfl, rfl⟩ := hrel
      go_wp2
      go_ret
      exact ⟨rfl, ⟨[], rfl, O.out⟩, L8.Only.refl _ _ _⟩
  · obtain ⟨g, rfl⟩ : ∃ g, a = some ⟨g, 0, none⟩ := by
      rcases ho.row.2 with ⟨_, h0⟩ | ⟨g, cap2, cur, hv, _⟩
      · omega
      · cases hv; exact ⟨g, rfl⟩
    have hgr : base ≤ g ∧ g < hi := ⟨(L8.own_lt ho.row g rfl).1, hin.row g rfl⟩
    have O := hide ho
    have HML := hide hML
    have HLN := hide hLn
    have HK := hide hk
    have HX := hide hX
    have HI := hide hin
    clear ho hML hk hX hin hLn hn0
    go_enter Try.func18, Try.ntmps18
    go_wp2
    go_loopw [1, 5] (fun k i wr => ∃ (j : Nat) (N : List PR), j ≤ n ∧ i = .int .i64 j ∧ k = .int .i64 (kt c0 L j) ∧ Hid (∀ t, t < j → (N.getD t eV).1 = mkr c0 L t) ∧ Hid (∀ t, j ≤ t → t < n → N.getD t eV = M.getD t eV) ∧ Hid (∀ t, t < n → (N.getD t eV).2 = (M.getD t eV).2) ∧ OwR wr base (.slice (some ⟨g, 0, none⟩) n cap) n N ∧ L8.Only base hi w wr) (fun _ i _ => n - (intOf i).toNat)
    case atStart => exact ⟨0, M, Nat.zero_le _, rfl, rfl, fun t ht => absurd ht (Nat.not_lt_zero _), fun t _ _ => rfl, fun t _ => rfl, O.out, L8.Only.refl _ _ _⟩
    case round =>
      obtain ⟨j, N, hj, rfl, rfl, H1, H2, H3, hown, honly⟩ := hrel
      by_cases hlt : j < n
      · have hltI : (j : Int) < (n : Int) := by omega
        have hpos := kt_pos c0 hc0 L j
        have hkle := HK.out (j + 1) (by omega)
        have hkn : kt c0 L (j + 1) = kt c0 L j + 2 * ((gr L j).l.length : Int) + 4 := rfl
        have hxl := HX.out j hlt
        have hl := hown.len
        have hMj : (N.getD j eV) = M.getD j eV := H2.out j (Nat.le_refl _) hlt
        have hgc : (M.getD j eV).1 = gr L j := by
          have := rws_get M j (by rw [O.out.len]; exact hlt)
          rw [HML.out] at this
          exact this.symm
        obtain ⟨c, hc⟩ : ∃ c, c = kt c0 L j := ⟨_, rfl⟩
        obtain ⟨m, hm⟩ : ∃ m, m = (gr L j).l.length := ⟨_, rfl⟩
        rw [← hc]
        rw [← hc] at hpos hkn
        rw [hkn, ← hm] at hkle
        rw [← hm] at hxl
        obtain ⟨q, hq⟩ : ∃ q, q = N.getD j eV := ⟨_, rfl⟩
        -- the labels
        have hidx := hown.idx j hlt
        rw [← hq] at hidx
        rw [show q.1.l = (gr L j).l by rw [hq, hMj, hgc], ← hm] at hidx
        obtain ⟨ai, ci, hvi, _, _⟩ := own_formL hidx
        have hg0 := (flatR_get N j (by omega)).1
        rw [← hq] at hg0
        have hk0 := (hown.row.cellAt (j * 5) (by omega)).trans hg0
        rw [hvi] at hk0
        rw [hvi] at hidx
        have hbr := Nat.le_trans hbw honly.size
        have CX := hide (markLabelS_from base (.slice ai m ci) (gr L j).l m wr c (by omega) (by omega) (by omega) hidx hbr)
        have HOW := hide hown
        have HON := hide honly
        have HKN := hide hkn
        have HQ := hide hq
        have HMJ := hide hMj
        have HVI := hide hvi
        have HM := hide hm
        have HC := hide hc
        have HL := hide hl
        clear hkn hMj hgc hm hc hl hown honly hidx hg0 hvi hq hbr
        go_wp2_with fail
        refine CX.out.mono ?_
        rintro e w2 ⟨rfl, ho2, hb2, hg2⟩
        have P0 := HOW.out.setX j hlt (mkL c m) (by
          rw [← HQ.out]
          rw [HVI.out, mkL_len]
          exact ho2) (by
          rw [← HQ.out]
          rw [HVI.out]
          exact hg2)
        rw [← HQ.out] at P0
        have ON0 := HON.out.grown hg2 (fun q' hq' => by
          have e1 : (M.getD j eV).2.ownBlock = some q' := by rw [← HMJ.out, ← HQ.out, HVI.out]; exact hq'
          exact ⟨(L8.own_lt (O.out.idx j hlt) q' e1).1, HI.out.idx j hlt q' e1⟩)
        have hfl : ∀ K : List PR, K.length = n → (flatR K).length = n * 5 := fun K hK => by rw [flatR_len, hK]
        have P1 := P0.setI j hlt 1 (by omega) (.int .i64 (c + 2 * (m : Int))) ⟨mkL c m, c + 2 * (m : Int), q.1.v1, q.1.v2, q.1.v3⟩ (by rw [L8.getD_self N j _ _ (by rw [HL.out]; exact hlt)]; rfl) (by rw [L8.getD_self N j _ _ (by rw [HL.out]; exact hlt)])
        rw [L8.getD_self N j _ _ (by rw [HL.out]; exact hlt), L8.set_twice] at P1
        simp only at P1
        have fr0 := P0.row.frozenAt (j * 5 + 1)
        obtain ⟨z0, hz0⟩ : ∃ v, World.cell? (w2) ⟨g, j * 5 + 1, none⟩ = some v := ⟨_, (P0.row.cellAt (j * 5 + 1) (by omega)).trans (List.getElem?_eq_getElem (by rw [hfl _ P0.len]; omega))⟩
        have ON1 := ON0.grown P1.2 (fun q hq => by cases hq; exact hgr)
        have P2 := P1.1.setI j hlt 2 (by omega) (.int .i64 (c + 2 * (m : Int) + 1)) ⟨mkL c m, c + 2 * (m : Int), c + 2 * (m : Int) + 1, q.1.v2, q.1.v3⟩ (by rw [L8.getD_self N j _ _ (by rw [HL.out]; exact hlt)]; rfl) (by rw [L8.getD_self N j _ _ (by rw [HL.out]; exact hlt)])
        rw [L8.getD_self N j _ _ (by rw [HL.out]; exact hlt), L8.set_twice] at P2
        simp only at P2
        have fr1 := P1.1.row.frozenAt (j * 5 + 2)
        obtain ⟨z1, hz1⟩ : ∃ v, World.cell? (w2.setCell ⟨g, j * 5 + 1, none⟩ (.int .i64 (c + 2 * (m : Int)))) ⟨g, j * 5 + 2, none⟩ = some v := ⟨_, (P1.1.row.cellAt (j * 5 + 2) (by omega)).trans (List.getElem?_eq_getElem (by rw [hfl _ P1.1.len]; omega))⟩
        have ON2 := ON1.grown P2.2 (fun q hq => by cases hq; exact hgr)
        have P3 := P2.1.setI j hlt 3 (by omega) (.int .i64 (c + 2 * (m : Int) + 1 + 1)) ⟨mkL c m, c + 2 * (m : Int), c + 2 * (m : Int) + 1, c + 2 * (m : Int) + 1 + 1, q.1.v3⟩ (by rw [L8.getD_self N j _ _ (by rw [HL.out]; exact hlt)]; rfl) (by rw [L8.getD_self N j _ _ (by rw [HL.out]; exact hlt)])
        rw [L8.getD_self N j _ _ (by rw [HL.out]; exact hlt), L8.set_twice] at P3
        simp only at P3
        have fr2 := P2.1.row.frozenAt (j * 5 + 3)
        obtain ⟨z2, hz2⟩ : ∃ v, World.cell? ((w2.setCell ⟨g, j * 5 + 1, none⟩ (.int .i64 (c + 2 * (m : Int)))).setCell ⟨g, j * 5 + 2, none⟩ (.int .i64 (c + 2 * (m : Int) + 1))) ⟨g, j * 5 + 3, none⟩ = some v := ⟨_, (P2.1.row.cellAt (j * 5 + 3) (by omega)).trans (List.getElem?_eq_getElem (by rw [hfl _ P2.1.len]; omega))⟩
        have ON3 := ON2.grown P3.2 (fun q hq => by cases hq; exact hgr)
        have P4 := P3.1.setI j hlt 4 (by omega) (.int .i64 (c + 2 * (m : Int) + 1 + 1 + 1)) ⟨mkL c m, c + 2 * (m : Int), c + 2 * (m : Int) + 1, c + 2 * (m : Int) + 1 + 1, c + 2 * (m : Int) + 1 + 1 + 1⟩ (by rw [L8.getD_self N j _ _ (by rw [HL.out]; exact hlt)]; rfl) (by rw [L8.getD_self N j _ _ (by rw [HL.out]; exact hlt)])
        rw [L8.getD_self N j _ _ (by rw [HL.out]; exact hlt), L8.set_twice] at P4
        simp only at P4
        have fr3 := P3.1.row.frozenAt (j * 5 + 4)
        obtain ⟨z3, hz3⟩ : ∃ v, World.cell? (((w2.setCell ⟨g, j * 5 + 1, none⟩ (.int .i64 (c + 2 * (m : Int)))).setCell ⟨g, j * 5 + 2, none⟩ (.int .i64 (c + 2 * (m : Int) + 1))).setCell ⟨g, j * 5 + 3, none⟩ (.int .i64 (c + 2 * (m : Int) + 1 + 1))) ⟨g, j * 5 + 4, none⟩ = some v := ⟨_, (P3.1.row.cellAt (j * 5 + 4) (by omega)).trans (List.getElem?_eq_getElem (by rw [hfl _ P3.1.len]; omega))⟩
        have ON4 := ON3.grown P4.2 (fun q hq => by cases hq; exact hgr)
        have R : ∃ (j' : Nat) (N' : List PR), j' ≤ n ∧ Value.int .i64 ((j : Int) + 1) = .int .i64 j' ∧ Value.int .i64 (c + 2 * (m : Int) + 1 + 1 + 1 + 1) = .int .i64 (kt c0 L j') ∧ Hid (∀ t, t < j' → (N'.getD t eV).1 = mkr c0 L t) ∧ Hid (∀ t, j' ≤ t → t < n → N'.getD t eV = M.getD t eV) ∧ Hid (∀ t, t < n → (N'.getD t eV).2 = (M.getD t eV).2) ∧ OwR ((((w2.setCell ⟨g, j * 5 + 1, none⟩ (.int .i64 (c + 2 * (m : Int)))).setCell ⟨g, j * 5 + 2, none⟩ (.int .i64 (c + 2 * (m : Int) + 1))).setCell ⟨g, j * 5 + 3, none⟩ (.int .i64 (c + 2 * (m : Int) + 1 + 1))).setCell ⟨g, j * 5 + 4, none⟩ (.int .i64 (c + 2 * (m : Int) + 1 + 1 + 1))) base (.slice (some ⟨g, 0, none⟩) n cap) n N' ∧ L8.Only base hi w ((((w2.setCell ⟨g, j * 5 + 1, none⟩ (.int .i64 (c + 2 * (m : Int)))).setCell ⟨g, j * 5 + 2, none⟩ (.int .i64 (c + 2 * (m : Int) + 1))).setCell ⟨g, j * 5 + 3, none⟩ (.int .i64 (c + 2 * (m : Int) + 1 + 1))).setCell ⟨g, j * 5 + 4, none⟩ (.int .i64 (c + 2 * (m : Int) + 1 + 1 + 1))) := by
          refine ⟨j + 1, _, by omega, by simp, ?_, fun t ht => ?_, fun t h1 h2 => ?_, fun t ht => ?_, P4.1, ON4⟩
          · rw [HKN.out, ← HM.out]
            try (congr 1; omega)
          · by_cases e : t = j
            · subst e
              rw [L8.getD_self N t _ _ (by rw [HL.out]; exact hlt)]
              show (⟨mkL c m, c + 2 * (m : Int), c + 2 * (m : Int) + 1, c + 2 * (m : Int) + 1 + 1, c + 2 * (m : Int) + 1 + 1 + 1⟩ : Rw) = mkr c0 L t
              unfold mkr
              rw [← HC.out, ← HM.out]
              try (congr 1 <;> omega)
            · rw [L8.getD_ne N j t _ _ e]
              exact H1.out t (by omega)
          · rw [L8.getD_ne N j t _ _ (by omega)]
            exact H2.out t (by omega) h2
          · by_cases e : t = j
            · subst e
              rw [L8.getD_self N t _ _ (by rw [HL.out]; exact hlt)]
              show q.2 = _
              rw [HQ.out]
              exact H3.out t ht
            · rw [L8.getD_ne N j t _ _ e]
              exact H3.out t ht
        have HR := hide R
        clear R ON0 ho2 hb2 hg2 P0 hfl P1 ON1 P2 ON2 P3 ON3 P4 ON4
        go_wp2
        go_roundw
        case rel => exact HR.out
        case measure => simp [intOf]; omega
      · obtain rfl : j = n := by omega
        have hltI : ¬ (j : Int) < (j : Int) := by omega
        have E : rws N = mkrs c0 L := by
          refine list_sameR hown.len (by rw [mkrs_len]; exact HLN.out) (fun t ht => ?_)
          rw [mkrs_get c0 L t (by rw [HLN.out]; exact ht)]
          exact H1.out t ht
        obtain ⟨c, hc⟩ : ∃ c, c = kt c0 L j := ⟨_, rfl⟩
        rw [← hc]
        have HC := hide hc
        have HE := hide E
        have HO := hide hown
        have HON := hide honly
        clear E hown honly hc
        go_wp2
        go_ret
        exact ⟨by rw [← HC.out]; rfl, ⟨N, HE.out, HO.out⟩, HON.out⟩
end Go.Proofs.Ytohcjafklfemfam.L14T
