/-
  Contracts of the laws' own helpers: laws.markRowS, laws.markHead write into a head that lies in memory of its own, and into nothing else.
-/
import Derived.Test.YtbcnkglcfjinealL13To
import Derived.Test.YtbcnkglcfjinealL13Law
import Derived.Test.YtbcnkglcfjinealL13MarkS
import Derived.Test.YtbcnkglcfjinealL3MarkText
namespace Go.Proofs.Ytbcnkglcfjineal.L13
open Go.RowKit L1
set_option linter.unusedVariables false

/-- The number that a row's marks begin with. -/
def katR (L : List Rw) : Nat → Int
  | 0 => 1
  | i + 1 => katR L i + 1 + 2 * ((gr L i).l.length : Int)
/-- The marks of rows. -/
def mkR (L : List Rw) (i : Nat) : Rw := ⟨L3.mkT (katR L i), mk2F (katR L i + 1) (gr L i).l.length⟩
def mksR (L : List Rw) : List Rw := (List.range L.length).map (mkR L)
theorem mksR_len (L : List Rw) : (mksR L).length = L.length := by simp [mksR]
theorem mksR_get (L : List Rw) (i : Nat) (h : i < L.length) : gr (mksR L) i = mkR L i := by simp [gr, mksR, List.getD, h]
theorem katR_pos (L : List Rw) : ∀ i, 1 ≤ katR L i
  | 0 => Int.le_refl _
  | i + 1 => by have := katR_pos L i; unfold katR; omega
/-- A row's Samples written over. -/
theorem OwR.setX {w w' : World} {base n : Nat} {v : Value} {M : List PR} (h : OwR w base v n M) (k : Nat) (hk : k < n) (xs : List (Int × Int)) (hx : w'.ownsRow base 51 2 (M.getD k eV).2 xs.length (flat xs)) (hg : w.grownBy w' (M.getD k eV).2.ownBlock) :
    OwR w' base v n (M.set k (⟨(M.getD k eV).1.nm, xs⟩, (M.getD k eV).2)) := by
  have hl := h.len
  have q : ∀ t, t < n → ((M.set k (⟨(M.getD k eV).1.nm, xs⟩, (M.getD k eV).2)).getD t eV).2 = (M.getD t eV).2 := fun t ht => by
    by_cases e : t = k
    · subst e; rw [L8.getD_self M t _ _ (by omega)]
    · rw [L8.getD_ne M k t _ _ e]
  refine ⟨by simpa using hl, ?_, fun i hi => ?_, fun i j hij hj => ?_⟩
  · have e0 : flatR (M.set k (⟨(M.getD k eV).1.nm, xs⟩, (M.getD k eV).2)) = flatR M := by
      obtain ⟨f1, f2⟩ := flatR_get M k (by omega)
      rw [flatR_set M k _ (by omega)]
      apply List.ext_getElem?
      intro j
      have hfl : (flatR M).length = n * 2 := by rw [flatR_len, hl]
      by_cases e2 : j = k * 2 + 1
      · subst e2
        rw [List.getElem?_set_self (by rw [List.length_set]; omega), f2]
      · rw [List.getElem?_set_ne (by omega)]
        by_cases e : j = k * 2
        · subst e
          rw [List.getElem?_set_self (by omega), f1]
        · rw [List.getElem?_set_ne (by omega)]
    rw [e0]
    exact L8.own_kept h.row hg (fun b hb e => L8.own_two h.row (h.idx k hk) smp_row b hb e)
  · by_cases e : i = k
    · subst e
      rw [L8.getD_self M i _ _ (by omega)]
      exact hx
    · rw [L8.getD_ne M k i _ _ e]
      refine L8.own_kept (h.idx i hi) hg (fun b hb e2 => ?_)
      by_cases hlt : i < k
      · exact h.apart i k hlt hk b hb e2
      · exact h.apart k i (by omega) hi b e2 hb
  · intro b
    rw [q i (by omega), q j hj]
    exact h.apart i j hij hj b
/-- A row's Name written over. -/
theorem OwR.setS {w : World} {base g n cap : Nat} {M : List PR} (h : OwR w base (.slice (some ⟨g, 0, none⟩) n cap) n M) (k : Nat) (hk : k < n) (s : ByteArray) :
    OwR (w.setCell ⟨g, k * 2, none⟩ (.string s)) base (.slice (some ⟨g, 0, none⟩) n cap) n (M.set k (⟨s, (M.getD k eV).1.l⟩, (M.getD k eV).2)) ∧ w.grownBy (w.setCell ⟨g, k * 2, none⟩ (.string s)) (some g) := by
  have hl := h.len
  have h1 := h.row.stored (k * 2) (.string s)
  have hf := L8.flat_set cR 2 cR_len eV M k 0 (.string s) (⟨s, (M.getD k eV).1.l⟩, (M.getD k eV).2) (by omega) (by omega) rfl
  rw [Nat.add_zero] at hf
  have q : ∀ t, t < n → ((M.set k (⟨s, (M.getD k eV).1.l⟩, (M.getD k eV).2)).getD t eV).2 = (M.getD t eV).2 ∧ ((M.set k (⟨s, (M.getD k eV).1.l⟩, (M.getD k eV).2)).getD t eV).1.l = (M.getD t eV).1.l := fun t ht => by
    by_cases e : t = k
    · subst e; rw [L8.getD_self M t _ _ (by omega)]; exact ⟨rfl, rfl⟩
    · rw [L8.getD_ne M k t _ _ e]; exact ⟨rfl, rfl⟩
  refine ⟨⟨by simpa using hl, by rw [flatR, ← hf]; exact h1.1, fun i hi => ?_, fun i j hij hj b => ?_⟩, h1.2⟩
  · rw [(q i hi).1, (q i hi).2]
    exact L8.own_kept (h.idx i hi) h1.2 (fun b hb e => by
      simp at e
      subst e
      exact L8.own_two h.row (h.idx i hi) smp_row g rfl hb)
  · rw [(q i (by omega)).1, (q j hj).1]
    exact h.apart i j hij hj b
set_option maxRecDepth 100000 in
set_option maxHeartbeats 4000000 in
theorem markRowS_any (base hi : Nat) (v : Value) (n : Nat) (M : List PR) (L : List Rw) (w : World) (hML : rws M = L) (hn2 : n ≤ 1048576) (hk : ∀ i, i ≤ n → katR L i ≤ 2147483648) (hX : ∀ i, i < n → (gr L i).l.length ≤ 1048576) (hin : InR hi v n M) (ho : OwR w base v n M) :
    Calls Try.prog 25 #[v, .int .i64 1] w fun e w' => e = .returned (.int .i64 (katR L n)) ∧ (∃ M', rws M' = mksR L ∧ OwR w' base v n M' ∧ ∀ t, t < n → (M'.getD t eV).2 = (M.getD t eV).2) ∧ L8.Only base hi w w' := by
  have hLn : L.length = n := by rw [← hML]; simpa using ho.len
  obtain ⟨a, cap, rfl, _⟩ := ho.form
  by_cases hn0 : n = 0
  · subst hn0
    have hL0 : L = [] := List.eq_nil_of_length_eq_zero hLn
    have hM0 : M = [] := List.eq_nil_of_length_eq_zero ho.len
    subst hL0 hM0
    have O := hide ho
    clear ho hML hk hX hin hLn
    go_enter Try.func25, Try.ntmps25
    go_wp2
    go_loop [1, 5] (fun k i => k = .int .i64 1 ∧ i = .int .i64 0) (fun _ _ => 0)
    case atStart => exact ⟨rfl, rfl⟩
    case round =>
      obtain ⟨rfl, rfl⟩ := hrel
      go_wp2
      go_ret
      exact ⟨rfl, ⟨[], rfl, by first | exact O.out | exact ⟨O.out, fun _ _ => rfl⟩⟩, L8.Only.refl _ _ _⟩
  · obtain ⟨g, rfl⟩ : ∃ g, a = some ⟨g, 0, none⟩ := by
      rcases ho.row.2 with ⟨_, h0⟩ | ⟨g, cap2, cur, hv, _⟩
      · omega
      · cases hv; exact ⟨g, rfl⟩
    have hgr : base ≤ g ∧ g < hi := ⟨(L8.own_lt ho.row g rfl).1, hin.row g rfl⟩
    have O := hide ho
    have HML := hide hML
    have HLN := hide hLn
    have HK := hide hk
    have HX := hide hX
    have HI := hide hin
    clear ho hML hk hX hin hLn hn0
    go_enter Try.func25, Try.ntmps25
    go_wp2
    go_loopw [1, 5] (fun k i wr => ∃ (j : Nat) (N : List PR), j ≤ n ∧ i = .int .i64 j ∧ k = .int .i64 (katR L j) ∧ Hid (∀ t, t < j → (N.getD t eV).1 = mkR L t) ∧ Hid (∀ t, j ≤ t → t < n → N.getD t eV = M.getD t eV) ∧ Hid (∀ t, t < n → (N.getD t eV).2 = (M.getD t eV).2) ∧ OwR wr base (.slice (some ⟨g, 0, none⟩) n cap) n N ∧ L8.Only base hi w wr) (fun _ i _ => n - (intOf i).toNat)
    case atStart => exact ⟨0, M, Nat.zero_le _, rfl, rfl, fun t ht => absurd ht (Nat.not_lt_zero _), fun t _ _ => rfl, fun t _ => rfl, O.out, L8.Only.refl _ _ _⟩
    case round =>
      obtain ⟨j, N, hj, rfl, rfl, H1, H2, H3, hown, honly⟩ := hrel
      by_cases hlt : j < n
      · have hltI : (j : Int) < (n : Int) := by omega
        have hpos := katR_pos L j
        have hkle := HK.out (j + 1) (by omega)
        have hkn : katR L (j + 1) = katR L j + 1 + 2 * ((gr L j).l.length : Int) := rfl
        have hxl := HX.out j hlt
        have hl := hown.len
        have hMj : (N.getD j eV) = M.getD j eV := H2.out j (Nat.le_refl _) hlt
        have hgc : (M.getD j eV).1 = gr L j := by
          have := rws_get M j (by rw [O.out.len]; exact hlt)
          rw [HML.out] at this
          exact this.symm
        obtain ⟨c, hc⟩ : ∃ c, c = katR L j := ⟨_, rfl⟩
        obtain ⟨m, hm⟩ : ∃ m, m = (gr L j).l.length := ⟨_, rfl⟩
        have CT := hide (fun wx => L3.markText_any c wx (by omega) (by omega))
        rw [← hc]
        rw [← hc] at hpos hkn
        rw [hkn, ← hm] at hkle
        have HKN := hide hkn
        have HMJ := hide hMj
        have HGC := hide hgc
        have HM := hide hm
        have HC := hide hc
        have HL := hide hl
        have HON := hide honly
        have HOW := hide hown
        rw [← hm] at hxl
        clear hkn hMj hgc hm hc hl hown honly
        go_wp2_with fail
        refine (CT.out _).mono ?_
        rintro e w1 ⟨rfl, hb1⟩
        -- the store
        have O1 := HOW.out.below hb1
        have P2 := O1.setS j hlt (L3.mkT c)
        have hfl1 : (flatR N).length = n * 2 := by rw [flatR_len]; rw [HL.out]
        have hcl1 := O1.row.cellAt (j * 2) (by omega)
        have hfr1 := O1.row.frozenAt (j * 2)
        obtain ⟨v1, hv1⟩ : ∃ v, w1.cell? ⟨g, j * 2, none⟩ = some v := ⟨_, hcl1.trans (List.getElem?_eq_getElem (by omega))⟩
        -- the Samples
        have hidx := P2.1.idx j hlt
        rw [L8.getD_self N j _ _ (by rw [HL.out]; exact hlt)] at hidx
        simp only at hidx
        rw [HMJ.out, HGC.out, ← HM.out] at hidx
        obtain ⟨ai, ci, hvi, _, _⟩ := own_form2 hidx
        have hcl2 := P2.1.row.cellAt (j * 2 + 1) (by omega)
        have hg3 := (flatR_get (N.set j (⟨L3.mkT c, (N.getD j eV).1.l⟩, (N.getD j eV).2)) j (by simp; rw [HL.out]; exact hlt)).2
        rw [L8.getD_self N j _ _ (by rw [HL.out]; exact hlt)] at hg3
        simp only at hg3
        have hk2 := hcl2.trans hg3
        rw [HMJ.out, hvi] at hk2
        have CX := hide (markSampleS_from base (.slice ai m ci) (gr L j).l m (c + 1) (w1.setCell ⟨g, j * 2, none⟩ (.string (L3.mkT c))) (by omega) (by omega) (by omega) (by rw [hvi] at hidx; exact hidx))
        have HP2 := hide P2
        have HVI := hide hvi
        have HB1 := hide hb1
        clear P2 O1 hcl1 hcl2 hfl1 hidx hg3 hvi hb1
        go_wp2_with fail
        refine CX.out.mono ?_
        rintro e w2 ⟨rfl, ho2, hb2, hg2⟩
        have hblk : (N.getD j eV).2 = .slice ai m ci := by rw [HMJ.out]; exact HVI.out
        have O3 := HP2.out.1.setX j hlt (mk2F (c + 1) m) (by
          rw [L8.getD_self N j _ _ (by rw [HL.out]; exact hlt)]
          show w2.ownsRow base _ 2 (N.getD j eV).2 _ _
          rw [hblk, mk2F_len]
          exact ho2) (by
          rw [L8.getD_self N j _ _ (by rw [HL.out]; exact hlt)]
          show World.grownBy _ _ (N.getD j eV).2.ownBlock
          rw [hblk]
          exact hg2)
        rw [L8.getD_self N j _ _ (by rw [HL.out]; exact hlt), L8.set_twice] at O3
        simp only at O3
        have ON3 := (((HON.out.grown (r := none) (L8.grown_below HB1.out) (fun q hq => by cases hq)).grown HP2.out.2 (fun q hq => by cases hq; exact hgr)).grown hg2 (fun q hq => by
          have h1 := (L8.own_lt (O.out.idx j hlt) q (by rw [HVI.out]; exact hq)).1
          have h2 := HI.out.idx j hlt q (by rw [HVI.out]; exact hq)
          exact ⟨h1, h2⟩))
        have R : ∃ (j' : Nat) (N' : List PR), j' ≤ n ∧ Value.int .i64 ((j : Int) + 1) = .int .i64 j' ∧ Value.int .i64 (c + 1 + 2 * (m : Int)) = .int .i64 (katR L j') ∧ Hid (∀ t, t < j' → (N'.getD t eV).1 = mkR L t) ∧ Hid (∀ t, j' ≤ t → t < n → N'.getD t eV = M.getD t eV) ∧ Hid (∀ t, t < n → (N'.getD t eV).2 = (M.getD t eV).2) ∧ OwR w2 base (.slice (some ⟨g, 0, none⟩) n cap) n N' ∧ L8.Only base hi w w2 := by
          refine ⟨j + 1, _, by omega, by simp, ?_, fun t ht => ?_, fun t h1 h2 => ?_, fun t ht => ?_, O3, ON3⟩
          · rw [HKN.out, ← HM.out]
          · by_cases e : t = j
            · subst e
              rw [L8.getD_self N t _ _ (by rw [HL.out]; exact hlt)]
              show (⟨L3.mkT c, mk2F (c + 1) m⟩ : Rw) = mkR L t
              unfold mkR
              rw [← HC.out, ← HM.out]
            · rw [L8.getD_ne N j t _ _ e]
              exact H1.out t (by omega)
          · rw [L8.getD_ne N j t _ _ (by omega)]
            exact H2.out t (by omega) h2
          · by_cases e : t = j
            · subst e
              rw [L8.getD_self N t _ _ (by rw [HL.out]; exact hlt)]
              exact H3.out t ht
            · rw [L8.getD_ne N j t _ _ e]
              exact H3.out t ht
        have HR := hide R
        clear R O3 ON3 ho2 hb2 hg2 hblk
        go_wp2
        go_roundw
        case rel => exact HR.out
        case measure => simp [intOf]; omega
      · obtain rfl : j = n := by omega
        have hltI : ¬ (j : Int) < (j : Int) := by omega
        have E : rws N = mksR L := by
          refine list_sameR hown.len (by rw [mksR_len]; exact HLN.out) (fun t ht => ?_)
          rw [mksR_get L t (by rw [HLN.out]; exact ht)]
          exact H1.out t ht
        obtain ⟨c, hc⟩ : ∃ c, c = katR L j := ⟨_, rfl⟩
        rw [← hc]
        have HC := hide hc
        have HE := hide E
        have HO := hide hown
        have HON := hide honly
        clear E hown honly hc
        go_wp2
        go_ret
        exact ⟨by rw [← HC.out]; rfl, ⟨N, HE.out, HO.out, H3.out⟩, HON.out⟩

set_option maxRecDepth 100000 in
set_option maxHeartbeats 1000000 in
theorem markHead_any (base hi : Nat) (v : Value) (n : Nat) (M : List PR) (L : List Rw) (B : Int) (w : World) (hML : rws M = L) (hn2 : n ≤ 1048576) (hk : ∀ i, i ≤ n → katR L i ≤ 2147483648) (hX : ∀ i, i < n → (gr L i).l.length ≤ 1048576) (hin : InR hi v n M) (ho : OwR w base v n M) :
    Calls Try.prog 11 #[.agg #[v, .int .i64 B], .int .i64 1] w fun e w' => e = .returned (.int .i64 (katR L n)) ∧ (∃ M', rws M' = mksR L ∧ OwR w' base v n M' ∧ ∀ t, t < n → (M'.getD t eV).2 = (M.getD t eV).2) ∧ L8.Only base hi w w' := by
  have C := hide (fun wx (ho : OwR wx base v n M) => markRowS_any base hi v n M L wx hML hn2 hk hX hin ho)
  have O := hide ho
  obtain ⟨a, cap, rfl, _⟩ := ho.form
  obtain ⟨c, hc⟩ : ∃ c, c = katR L n := ⟨_, rfl⟩
  rw [← hc] at C ⊢
  clear ho hML hk hX hin hc
  go_enter Try.func11, Try.ntmps11
  go_wp2_with fail
  refine (C.out _ (O.out.below ((Below.refl _ _).alloc (Nat.le_refl _) _))).mono ?_
  rintro e w1 ⟨rfl, hM, hon⟩
  have H := hide (And.intro hM (show L8.Only base hi w w1 from ⟨hon.os, hon.tape, hon.output, Nat.le_trans (by simp) hon.size, fun k hk ho => (hon.block k (by simp; omega) ho).trans (((Below.refl w.heap.size w).alloc (Nat.le_refl _) _).block k hk)⟩))
  clear hM hon
  go_wp2
  go_ret
  exact ⟨rfl, H.out⟩
end Go.Proofs.Ytbcnkglcfjineal.L13
