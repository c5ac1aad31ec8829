/-
  Contracts of the laws' own helpers: laws.heldPieceS, laws.heldLog find the marks of a log.
  Contracts of the laws' own helpers: laws.markPieceS, laws.markLog.
  How far the marks of a log go. Nothing of the program's text is proved here.
-/
import Derived.Test.YtapffbbmofhpobaDoorBundle4
import Derived.Deep.RegionHeld3
import Derived.Test.YtapffbbmofhpobaDoorBundle2
namespace Go.Proofs.YtapffbbmofhpobaDoor.L6
open Go.RowKit L1
set_option linter.unusedVariables false

set_option maxRecDepth 100000 in
set_option maxHeartbeats 1000000 in
theorem heldIntS_from (a : Option Addr) (n cap : Nat) (c : Int) (w : World) (hc0 : 0 ≤ c) (hc1 : c ≤ 4294967296) (hn2 : n ≤ 1048576) (hs : Sl w a (L4.mkC c n)) :
    Calls Tryd.prog 44 #[.slice a n cap, .int .i64 c] w fun e w' => e = .returned (.int .i64 (c + (n : Int))) ∧ Below w.heap.size w w' := by
  have HS := hide hs
  clear hs
  go_enter Tryd.func44, Tryd.ntmps44
  go_wp2
  go_loop [1, 5] (fun k i => ∃ j : Nat, j ≤ n ∧ i = .int .i64 j ∧ k = .int .i64 (c + (j : Int))) (fun _ i => n - (intOf i).toNat)
  case atStart => exact ⟨0, by omega, rfl, by simp⟩
  case round =>
    obtain ⟨j, hj, rfl, rfl⟩ := hrel
    by_cases hlt : j < n
    · obtain ⟨b, off, rfl, hc⟩ := HS.out j (by rw [L4.mkC_len]; exact hlt)
      rw [L4.mkC_get c n j hlt] at hc
      have hltI : (j : Int) < (n : Int) := by omega
      go_wp2
      go_round
      case rel => exact ⟨j + 1, by omega, by go_num, by go_num⟩
      case measure => simp [intOf]; omega
    · have hltI : ¬ (j : Int) < (n : Int) := by omega
      obtain rfl : j = n := by omega
      go_wp2
      go_ret
      exact ⟨rfl, Below.refl _ _⟩

set_option maxRecDepth 100000 in
set_option maxHeartbeats 2000000 in
theorem heldPieceS_any (a : Option Addr) (n cap : Nat) (L : List Pc) (w : World) (hLn : L.length = n) (hn2 : n ≤ 1048576) (hk : ∀ i, i ≤ n → kat L i ≤ 2147483648) (hX : ∀ i, i < n → (gc L i).x.length ≤ 1048576) (hs : SlC w a (mks L)) :
    Calls Tryd.prog 37 #[.slice a n cap, .int .i64 1] w fun e w' => e = .returned (.int .i64 (kat L n)) ∧ Below w.heap.size w w' := by
  have HS := hide hs
  have HLN := hide hLn
  have HK := hide hk
  have HX := hide hX
  clear hs hLn hk hX
  go_enter Tryd.func37, Tryd.ntmps37
  go_wp2
  go_loopw [1, 5] (fun k i wr => ∃ j : Nat, j ≤ n ∧ i = .int .i64 j ∧ k = .int .i64 (kat L j) ∧ Below w.heap.size w wr) (fun _ i _ => n - (intOf i).toNat)
  case atStart => exact ⟨0, Nat.zero_le _, rfl, rfl, Below.refl _ _⟩
  case round =>
    obtain ⟨j, hj, rfl, rfl, hbel⟩ := hrel
    by_cases hlt : j < n
    · obtain ⟨b, off, rfl, ai, ci, hat⟩ := HS.out.below hbel j (by rw [mks_len, HLN.out]; exact hlt)
      have hmk := mks_get L j (by rw [HLN.out]; exact hlt)
      have hd1 := hat.f
      have hd2 := hat.s
      have hd3 := hat.x
      have hd4 := hat.l
      rw [show (mks L).getD j eC = mkp L j from hmk] at hd1 hd2 hd3 hd4
      unfold mkp at hd1 hd2 hd3 hd4
      simp only [L4.mkC_len] at hd1 hd2 hd3 hd4
      have hltI : (j : Int) < (n : Int) := by omega
      have hj0 : (0 : Int) ≤ (j : Int) := by omega
      have hpos := kat_pos L j
      have hkle := HK.out (j + 1) (by omega)
      have hkn : kat L (j + 1) = kat L j + 2 + ((gc L j).x.length : Int) := rfl
      have hxl := HX.out j hlt
      obtain ⟨c, hc⟩ : ∃ c, c = kat L j := ⟨_, rfl⟩
      obtain ⟨m, hm⟩ : ∃ m, m = (gc L j).x.length := ⟨_, rfl⟩
      rw [← hc] at hd1 hd2 hd4 hpos hkn ⊢
      rw [← hm] at hd3 hd4 hkn hxl
      rw [hkn] at hkle
      have CT := hide (fun wx => L3.markText_any (c + 1) wx (by omega) (by omega))
      obtain ⟨y, hy⟩ : ∃ y, y = L3.mkT (c + 1) := ⟨_, rfl⟩
      rw [← hy] at hd2 CT
      have CX := hide (fun wx (hb : Below wr.heap.size wr wx) => heldIntS_from ai m ci (c + 2) wx (by omega) (by omega) (by omega) (hd4.below hb))
      rw [show c + 2 = c + 1 + 1 by omega] at CX
      have h0 : ¬ (c + 1 + 1 + (m : Int)) < 0 := by omega
      have HKN := hide hkn
      have HB := hide hbel
      clear hat hmk hd4 hc hm hkn hy hbel
      go_wp2
      go_region_held3 (fun wx => (wx.cell? ⟨b, off + j * 3 + 1, none⟩ = some (.string y) ∧ wx.cell? ⟨b, off + j * 3 + 2, none⟩ = some (.slice ai m ci)) ∧ Below wr.heap.size wr wx) (first | exact ⟨⟨hd2, hd3⟩, (Below.refl _ _).drew⟩ | exact keep2 (by assumption) (by assumption) (Nat.le_refl _)) ((go_at_call 56; refine (CT.out _).mono ?_; rintro e w1 ⟨rfl, hb⟩))
      rename_i hHeld
      have hHeld' := hHeld
      obtain ⟨⟨k1, k2⟩, hb3⟩ := hHeld'
      have B3 := hide hb3
      clear hHeld hb3
      go_wp2_with fail
      refine (CX.out _ B3.out).mono ?_
      rintro e w4 ⟨rfl, hb4⟩
      have B4 := hide (HB.out.trans ((B3.out.trans (hb4.mono B3.out.size)).mono HB.out.size))
      clear hb4
      go_wp2
      go_roundw
      case rel => exact ⟨j + 1, by omega, by go_num, by rw [HKN.out]; go_num, B4.out⟩
      case measure => simp [intOf]; omega
    · obtain rfl : j = n := by omega
      have hltI : ¬ (j : Int) < (j : Int) := by omega
      obtain ⟨c, hc⟩ : ∃ c, c = kat L j := ⟨_, rfl⟩
      rw [← hc]
      have HC := hide hc
      clear hc
      go_wp2
      go_ret
      exact ⟨by rw [← HC.out]; rfl, hbel⟩

set_option maxRecDepth 100000 in
set_option maxHeartbeats 1000000 in
theorem heldLog_any (a : Option Addr) (n cap : Nat) (L : List Pc) (B : Int) (w : World) (hLn : L.length = n) (hn2 : n ≤ 1048576) (hk : ∀ i, i ≤ n → kat L i ≤ 2147483648) (hX : ∀ i, i < n → (gc L i).x.length ≤ 1048576) (hs : SlC w a (mks L)) :
    Calls Tryd.prog 13 #[.agg #[.slice a n cap, .int .i64 B], .int .i64 1] w fun e w' => e = .returned (.int .i64 (kat L n)) ∧ Below w.heap.size w w' := by
  have C := hide (fun wx hs => heldPieceS_any a n cap L wx hLn hn2 hk hX hs)
  have HS := hide hs
  have hpos := kat_pos L n
  obtain ⟨c, hc⟩ : ∃ c, c = kat L n := ⟨_, rfl⟩
  rw [← hc] at C hpos ⊢
  have h0 : ¬ c < 0 := by omega
  clear hs hLn hk hX hc
  go_enter Tryd.func13, Tryd.ntmps13
  go_wp2_with fail
  refine (C.out _ (HS.out.below ((Below.refl _ _).alloc (Nat.le_refl _) _))).mono ?_
  rintro e w1 ⟨rfl, hb1⟩
  have B1 := hide (((Below.refl w.heap.size w).alloc (Nat.le_refl _) (.cells #[.slice a n cap, .int .i64 B] 28 (0, 0))).trans (hb1.mono (by simp)))
  clear hb1
  go_wp2
  go_ret
  exact ⟨rfl, B1.out⟩
end Go.Proofs.YtapffbbmofhpobaDoor.L6

namespace Go.Proofs.YtapffbbmofhpobaDoor.L6
open Go.RowKit L1
set_option linter.unusedVariables false

theorem set_set (M : List PV) (k : Nat) (p q : PV) : (M.set k p).set k q = M.set k q := by simp
set_option maxRecDepth 100000 in
set_option maxHeartbeats 4000000 in
theorem markPieceS_any (base hi : Nat) (v : Value) (n : Nat) (M : List PV) (L : List Pc) (w : World) (hML : pcs M = L) (hn2 : n ≤ 1048576) (hk : ∀ i, i ≤ n → kat L i ≤ 2147483648) (hX : ∀ i, i < n → (gc L i).x.length ≤ 1048576) (hin : InC hi v n M) (ho : OwC w base v n M) :
    Calls Tryd.prog 36 #[v, .int .i64 1] w fun e w' => e = .returned (.int .i64 (kat L n)) ∧ (∃ M', pcs M' = mks L ∧ OwC w' base v n M') ∧ Only base hi w w' := by
  have hLn : L.length = n := by rw [← hML]; simpa using ho.len
  obtain ⟨a, cap, rfl, _⟩ := ho.form
  by_cases hn0 : n = 0
  · subst hn0
    have hL0 : L = [] := List.eq_nil_of_length_eq_zero hLn
    have hM0 : M = [] := List.eq_nil_of_length_eq_zero ho.len
    subst hL0 hM0
    have O := hide ho
    clear ho hML hk hX hin hLn
    go_enter Tryd.func36, Tryd.ntmps36
    go_wp2
    go_loop [1, 5] (fun k i => k = .int .i64 1 ∧ i = .int .i64 0) (fun _ _ => 0)
    case atStart => exact ⟨rfl, rfl⟩
    case round =>
      obtain ⟨rfl, rfl⟩ := hrel
      go_wp2
      go_ret
      exact ⟨rfl, ⟨[], rfl, O.out⟩, Only.refl _ _ _⟩
  · obtain ⟨g, rfl⟩ : ∃ g, a = some ⟨g, 0, none⟩ := by
      rcases ho.row.2 with ⟨_, h0⟩ | ⟨g, cap2, cur, hv, _⟩
      · omega
      · cases hv; exact ⟨g, rfl⟩
    have hgr : base ≤ g ∧ g < hi := ⟨(own_ltC ho.row g rfl).1, hin.row g rfl⟩
    have O := hide ho
    have HML := hide hML
    have HLN := hide hLn
    have HK := hide hk
    have HX := hide hX
    have HI := hide hin
    clear ho hML hk hX hin hLn hn0
    go_enter Tryd.func36, Tryd.ntmps36
    go_wp2
    go_loopw [1, 5] (fun k i wr => ∃ (j : Nat) (N : List PV), j ≤ n ∧ i = .int .i64 j ∧ k = .int .i64 (kat L j) ∧ Hid (∀ t, t < j → (N.getD t eV).1 = mkp L t) ∧ Hid (∀ t, j ≤ t → t < n → N.getD t eV = M.getD t eV) ∧ Hid (∀ t, t < n → (N.getD t eV).2 = (M.getD t eV).2) ∧ OwC wr base (.slice (some ⟨g, 0, none⟩) n cap) n N ∧ Only base hi w wr) (fun _ i _ => n - (intOf i).toNat)
    case atStart => exact ⟨0, M, Nat.zero_le _, rfl, rfl, fun t ht => absurd ht (Nat.not_lt_zero _), fun t _ _ => rfl, fun t _ => rfl, O.out, Only.refl _ _ _⟩
    case round =>
      obtain ⟨j, N, hj, rfl, rfl, H1, H2, H3, hown, honly⟩ := hrel
      by_cases hlt : j < n
      · have hltI : (j : Int) < (n : Int) := by omega
        have hpos := kat_pos L j
        have hkle := HK.out (j + 1) (by omega)
        have hkn : kat L (j + 1) = kat L j + 2 + ((gc L j).x.length : Int) := rfl
        have hxl := HX.out j hlt
        have hl := hown.len
        have hMj : (N.getD j eV) = M.getD j eV := H2.out j (Nat.le_refl _) hlt
        have hgc : (M.getD j eV).1 = gc L j := by
          have := pcs_get M j (by rw [O.out.len]; exact hlt)
          rw [HML.out] at this
          exact this.symm
        obtain ⟨c, hc⟩ : ∃ c, c = kat L j := ⟨_, rfl⟩
        -- the first store
        have P1 := hown.setF j hlt c
        obtain ⟨m, hm⟩ : ∃ m, m = (gc L j).x.length := ⟨_, rfl⟩
        have hfl : (flatC N).length = n * 3 := by rw [flatC_len, hl]
        have hcl0 := hown.row.cellAt (j * 3) (by omega)
        have hfr0 := hown.row.frozenAt (j * 3)
        obtain ⟨v0, hv0⟩ : ∃ v, wr.cell? ⟨g, j * 3, none⟩ = some v := ⟨_, hcl0.trans (List.getElem?_eq_getElem (by omega))⟩
        have CT := hide (fun wx => L3.markText_any (c + 1) wx (by omega) (by omega))
        rw [← hc]
        rw [← hc] at hpos hkn
        rw [hkn, ← hm] at hkle
        have HP1 := hide P1
        have HKN := hide hkn
        have HMJ := hide hMj
        have HGC := hide hgc
        have HM := hide hm
        have HC := hide hc
        have HL := hide hl
        have HON := hide honly
        rw [← hm] at hxl
        clear P1 hkn hMj hgc hm hc hcl0 hfl hl hown honly
        go_wp2_with fail
        refine (CT.out _).mono ?_
        rintro e w1 ⟨rfl, hb1⟩
        -- the second store
        have O1 := HP1.out.1.below hb1
        have P2 := O1.setS j hlt (L3.mkT (c + 1))
        rw [getD_set_self N j _ (by rw [HL.out]; exact hlt), set_set] at P2
        simp only at P2
        have hfl1 : (flatC (N.set j (⟨c, (N.getD j eV).1.s, (N.getD j eV).1.x⟩, (N.getD j eV).2))).length = n * 3 := by rw [flatC_len]; simp; rw [HL.out]
        have hcl1 := O1.row.cellAt (j * 3 + 1) (by omega)
        have hfr1 := O1.row.frozenAt (j * 3 + 1)
        obtain ⟨v1, hv1⟩ : ∃ v, w1.cell? ⟨g, j * 3 + 1, none⟩ = some v := ⟨_, hcl1.trans (List.getElem?_eq_getElem (by omega))⟩
        -- the Index
        have hidx := P2.1.idx j hlt
        rw [getD_set_self N j _ (by rw [HL.out]; exact hlt)] at hidx
        simp only at hidx
        rw [HMJ.out, HGC.out, ← HM.out] at hidx
        obtain ⟨ai, ci, hvi, _, _⟩ := own_form hidx
        have hcl2 := P2.1.row.cellAt (j * 3 + 2) (by omega)
        have hg3 := (flatC_get (N.set j (⟨c, L3.mkT (c + 1), (N.getD j eV).1.x⟩, (N.getD j eV).2)) j (by simp; rw [HL.out]; exact hlt)).2.2
        rw [getD_set_self N j _ (by rw [HL.out]; exact hlt)] at hg3
        simp only at hg3
        have hk2 := hcl2.trans hg3
        rw [HMJ.out, hvi] at hk2
        have CX := hide (L4.markIntS_from base (.slice ai m ci) (gc L j).x m (w1.setCell ⟨g, j * 3 + 1, none⟩ (.string (L3.mkT (c + 1)))) (c + 1 + 1) (by omega) (by omega) (by omega) (by rw [hvi] at hidx; exact hidx))
        have HP2 := hide P2
        have HVI := hide hvi
        have HB1 := hide hb1
        clear P2 O1 hcl1 hcl2 hfl1 hidx hg3 hvi hb1
        go_wp2_with fail
        refine CX.out.mono ?_
        rintro e w2 ⟨rfl, ho2, hb2, hg2⟩
        have hblk : (N.getD j eV).2 = .slice ai m ci := by rw [HMJ.out]; exact HVI.out
        have O3 := HP2.out.1.setX j hlt (L4.mkC (c + 1 + 1) m) (by
          rw [getD_set_self N j _ (by rw [HL.out]; exact hlt)]
          show w2.ownsRow base _ 1 (N.getD j eV).2 _ _
          rw [hblk, L4.mkC_len]
          exact ho2) (by
          rw [getD_set_self N j _ (by rw [HL.out]; exact hlt)]
          show World.grownBy _ _ (N.getD j eV).2.ownBlock
          rw [hblk]
          exact hg2)
        rw [getD_set_self N j _ (by rw [HL.out]; exact hlt), set_set] at O3
        simp only at O3
        have ON3 := ((((HON.out.grown HP1.out.2 (fun q hq => by cases hq; exact hgr)).grown (r := none) (grown_below HB1.out) (fun q hq => by cases hq)).grown HP2.out.2 (fun q hq => by cases hq; exact hgr)).grown hg2 (fun q hq => by
          have h1 := (own_ltC (O.out.idx j hlt) q (by rw [HVI.out]; exact hq)).1
          have h2 := HI.out.idx j hlt q (by rw [HVI.out]; exact hq)
          exact ⟨h1, h2⟩))
        have R : ∃ (j' : Nat) (N' : List PV), j' ≤ n ∧ Value.int .i64 ((j : Int) + 1) = .int .i64 j' ∧ Value.int .i64 (c + 1 + 1 + (m : Int)) = .int .i64 (kat L j') ∧ Hid (∀ t, t < j' → (N'.getD t eV).1 = mkp L t) ∧ Hid (∀ t, j' ≤ t → t < n → N'.getD t eV = M.getD t eV) ∧ Hid (∀ t, t < n → (N'.getD t eV).2 = (M.getD t eV).2) ∧ OwC w2 base (.slice (some ⟨g, 0, none⟩) n cap) n N' ∧ Only base hi w w2 := by
          refine ⟨j + 1, _, by omega, by simp, ?_, fun t ht => ?_, fun t h1 h2 => ?_, fun t ht => ?_, O3, ON3⟩
          · rw [HKN.out, ← HM.out]
            congr 1
            omega
          · by_cases e : t = j
            · subst e
              rw [getD_set_self N t _ (by rw [HL.out]; exact hlt)]
              show (⟨c, L3.mkT (c + 1), L4.mkC (c + 1 + 1) m⟩ : Pc) = mkp L t
              unfold mkp
              rw [← HC.out, ← HM.out, show c + 1 + 1 = c + 2 by omega]
            · rw [getD_set_ne N j t _ e]
              exact H1.out t (by omega)
          · rw [getD_set_ne N j t _ (by omega)]
            exact H2.out t (by omega) h2
          · by_cases e : t = j
            · subst e
              rw [getD_set_self N t _ (by rw [HL.out]; exact hlt)]
              exact H3.out t ht
            · rw [getD_set_ne N j t _ e]
              exact H3.out t ht
        have HR := hide R
        clear R O3 ON3 ho2 hb2 hg2 hblk
        go_wp2
        go_roundw
        case rel => exact HR.out
        case measure => simp [intOf]; omega
      · obtain rfl : j = n := by omega
        have hltI : ¬ (j : Int) < (j : Int) := by omega
        have E : pcs N = mks L := by
          refine list_sameC hown.len (by rw [mks_len]; exact HLN.out) (fun t ht => ?_)
          rw [mks_get L t (by rw [HLN.out]; exact ht)]
          exact H1.out t ht
        obtain ⟨c, hc⟩ : ∃ c, c = kat L j := ⟨_, rfl⟩
        rw [← hc]
        have HC := hide hc
        have HE := hide E
        have HO := hide hown
        have HON := hide honly
        clear E hown honly hc
        go_wp2
        go_ret
        exact ⟨by rw [← HC.out]; rfl, ⟨N, HE.out, HO.out⟩, HON.out⟩

set_option maxRecDepth 100000 in
set_option maxHeartbeats 1000000 in
theorem markLog_any (base hi : Nat) (v : Value) (n : Nat) (M : List PV) (L : List Pc) (B : Int) (w : World) (hML : pcs M = L) (hn2 : n ≤ 1048576) (hk : ∀ i, i ≤ n → kat L i ≤ 2147483648) (hX : ∀ i, i < n → (gc L i).x.length ≤ 1048576) (hin : InC hi v n M) (ho : OwC w base v n M) :
    Calls Tryd.prog 12 #[.agg #[v, .int .i64 B], .int .i64 1] w fun e w' => e = .returned (.int .i64 (kat L n)) ∧ (∃ M', pcs M' = mks L ∧ OwC w' base v n M') ∧ Only base hi w w' := by
  have C := hide (fun wx (ho : OwC wx base v n M) => markPieceS_any base hi v n M L wx hML hn2 hk hX hin ho)
  have O := hide ho
  obtain ⟨a, cap, rfl, _⟩ := ho.form
  obtain ⟨c, hc⟩ : ∃ c, c = kat L n := ⟨_, rfl⟩
  rw [← hc] at C ⊢
  clear ho hML hk hX hin hc
  go_enter Tryd.func12, Tryd.ntmps12
  go_wp2_with fail
  refine (C.out _ (O.out.below ((Below.refl _ _).alloc (Nat.le_refl _) _))).mono ?_
  rintro e w1 ⟨rfl, hM, hon⟩
  have H := hide (And.intro hM (show Only base hi w w1 from ⟨hon.os, hon.tape, hon.output, Nat.le_trans (by simp) hon.size, fun k hk ho => (hon.block k (by simp; omega) ho).trans (((Below.refl w.heap.size w).alloc (Nat.le_refl _) _).block k hk)⟩))
  clear hM hon
  go_wp2
  go_ret
  exact ⟨rfl, H.out⟩
end Go.Proofs.YtapffbbmofhpobaDoor.L6

namespace Go.Proofs.YtapffbbmofhpobaDoor.L6
open Go.RowKit L1
set_option linter.unusedVariables false

theorem kat_sz (L : List Pc) : ∀ i, i ≤ L.length → kat L i ≤ 1 + 2 * (i : Int) + (szc (L.take i) : Int)
  | 0, _ => by simp [kat, szc]
  | i + 1, hi => by
    have h1 := kat_sz L i (by omega)
    have h2 := szc_take L i (by omega)
    show kat L i + 2 + ((gc L i).x.length : Int) ≤ _
    have e : (gc L i).x.length = (L.getD i eC).x.length := rfl
    omega
theorem kat_few (L : List Pc) (h : L.length + szc L ≤ 1048576) : ∀ i, i ≤ L.length → kat L i ≤ 2147483648 := fun i hi => by
  have h1 := kat_sz L i hi
  have h2 := szc_le L i
  omega
end Go.Proofs.YtapffbbmofhpobaDoor.L6
