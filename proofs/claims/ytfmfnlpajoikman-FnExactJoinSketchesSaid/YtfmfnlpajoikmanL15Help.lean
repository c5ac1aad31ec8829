/-
  Contracts of the laws' own helpers over rows of ints and sketches: laws.markIntSS, heldIntSS, markSketch, heldSketch, eqSketch, szSketch, toSketch.
-/
import Derived.Test.YtfmfnlpajoikmanL15MarkM
import Derived.Test.YtfmfnlpajoikmanSISize
import Derived.Test.YtfmfnlpajoikmanSIEq
namespace Go.Proofs.Ytfmfnlpajoikman.L15
open Go.RowKit L1 L4 Own Sli
set_option linter.unusedVariables false

theorem blk_three (w : World) (o1 o2 o3 : Obj) : (((w.alloc o1).alloc o2).alloc o3).heap[w.heap.size + 2]? = some o3 ∧ (((w.alloc o1).alloc o2).alloc o3).heap[w.heap.size + 1]? = some o2 ∧ (((w.alloc o1).alloc o2).alloc o3).heap[w.heap.size]? = some o1 ∧ (((w.alloc o1).alloc o2).alloc o3).heap.size = w.heap.size + 3 := by
  have h1 := L8.blk_new w o1
  have h2 := L8.blk_new (w.alloc o1) o2
  have h3 := L8.blk_new ((w.alloc o1).alloc o2) o3
  have e2 : (w.alloc o1).heap.size = w.heap.size + 1 := by simp
  have e3 : ((w.alloc o1).alloc o2).heap.size = w.heap.size + 2 := by simp
  rw [e2] at h2
  rw [e3] at h3
  have k2 := ((Below.refl ((w.alloc o1).alloc o2).heap.size ((w.alloc o1).alloc o2)).alloc (Nat.le_refl _) o3)
  have k1 := ((Below.refl (w.alloc o1).heap.size (w.alloc o1)).alloc (Nat.le_refl _) o2)
  refine ⟨h3, (k2.block (w.heap.size + 1) (by rw [e3]; omega)).trans h2, (k2.block w.heap.size (by rw [e3]; omega)).trans ((k1.block w.heap.size (by rw [e2]; omega)).trans h1), by simp⟩
theorem blk_two (w : World) (o1 o2 : Obj) : ((w.alloc o1).alloc o2).heap[w.heap.size + 1]? = some o2 ∧ ((w.alloc o1).alloc o2).heap[w.heap.size]? = some o1 ∧ ((w.alloc o1).alloc o2).heap.size = w.heap.size + 2 := by
  have h1 := L8.blk_new w o1
  have h2 := L8.blk_new (w.alloc o1) o2
  have e2 : (w.alloc o1).heap.size = w.heap.size + 1 := by simp
  rw [e2] at h2
  have k1 := ((Below.refl (w.alloc o1).heap.size (w.alloc o1)).alloc (Nat.le_refl _) o2)
  exact ⟨h2, (k1.block w.heap.size (by rw [e2]; omega)).trans h1, by simp⟩
set_option maxRecDepth 100000 in
set_option maxHeartbeats 4000000 in
theorem held_I (a : Option Addr) (n cp : Nat) (c : Int) (G : List (List Int)) (w : World) (hn : G.length = n) (hc0 : 0 ≤ c) (hc1 : c ≤ 10000000) (hz : SmS G) (hF : SlSI w a (mkUp mkC c G n)) :
    Calls Try.prog 44 #[.slice a n cp, .int .i64 c] w fun e w' => e = .returned (.int .i64 (c + (pre G n : Int))) ∧ Below w.heap.size w w' := by
  have hn5 : n ≤ 1048576 := by have := hz.n; omega
  have HC : Hid (∀ i, i < n → ∃ b off ai ci, a = some ⟨b, off, none⟩ ∧ w.cell? ⟨b, off + i, none⟩ = some (.slice ai (G.getD i []).length ci) ∧ Sl w ai (mkC (c + (pre G i : Int)) (G.getD i []).length)) := hide (fun i hi => by
    obtain ⟨b, off, ea, ai, ci, hc, hs⟩ := hF i (by rw [mkUp_len, hn]; exact hi)
    have e1 : (mkUp mkC c G n).getD i [] = mkC (c + (pre G i : Int)) (G.getD i []).length := by rw [mkUp_get mkC c G n i (by omega), if_pos hi]
    rw [e1, mkC_len] at hc
    rw [e1] at hs
    exact ⟨b, off, ai, ci, ea, hc, hs⟩)
  have HZ := hide hz
  have HN := hide hn
  clear hF hz hn
  go_enter Try.func44, Try.ntmps44
  go_wp2
  go_loopw [1, 5] (fun k i wr => ∃ j : Nat, j ≤ n ∧ i = .int .i64 j ∧ k = .int .i64 (c + (pre G j : Int)) ∧ Hid (Below w.heap.size w wr)) (fun _ i _ => n - (intOf i).toNat)
  case atStart => exact ⟨0, Nat.zero_le _, rfl, by simp [pre], hide (Below.refl _ _)⟩
  case round =>
    obtain ⟨j, hj, rfl, rfl, HB⟩ := hrel
    by_cases hlt : j < n
    · obtain ⟨b, off, ai, ci, rfl, hc0', hs0⟩ := HC.out j hlt
      have hc := (HB.out.cell (p := ⟨b, off + j, none⟩) (blk_lt hc0')).trans hc0'
      have hs := hs0.below HB.out
      have hltI : (j : Int) < (n : Int) := by omega
      have hj0 : (0 : Int) ≤ (j : Int) := by omega
      have hjG : j < G.length := by rw [HN.out]; exact hlt
      have hl40 := HZ.out.s j hjG
      have hp : pre G j ≤ 1048576 := Nat.le_trans (pre_mono G j _ (Nat.le_of_lt hjG)) HZ.out.p
      obtain ⟨mm, hm⟩ : ∃ mm, mm = (G.getD j []).length := ⟨_, rfl⟩
      have hps : pre G (j + 1) = pre G j + mm := by rw [hm]; rfl
      rw [← hm] at hc hl40 hs
      have C := hide (heldIntS_from ai mm ci (c + (pre G j : Int)) wr (by omega) (by omega) (by omega) hs)
      have HPS := hide hps
      have hcn : ¬ c + (pre G j : Int) + (mm : Int) < 0 := by omega
      clear hm hps hc0' hs hs0
      go_wp2_with fail
      refine C.out.mono ?_
      rintro e w1 ⟨rfl, hb1⟩
      have H1 := hide (HB.out.trans (hb1.mono HB.out.size))
      clear hb1 C
      go_wp2
      go_roundw
      case rel => exact ⟨j + 1, by omega, by go_num, by rw [HPS.out]; simp; omega, H1⟩
      case measure => simp [intOf]; omega
    · obtain rfl : j = n := by omega
      have hltI : ¬ (j : Int) < (j : Int) := by omega
      go_wp2
      go_ret
      exact ⟨rfl, HB.out⟩

set_option maxRecDepth 100000 in
set_option maxHeartbeats 4000000 in
theorem markSS_any (base hi : Nat) (v : Value) (n : Nat) (c : Int) (M : List PR) (L : List (List Int)) (w : World) (hML : rws M = L) (hc0 : 0 ≤ c) (hc1 : c ≤ 10000000) (hz : SmS L) (hin : InR hi v n M) (ho : OwR w base v n M) :
    Calls Try.prog 43 #[v, .int .i64 c] w fun e w' => e = .returned (.int .i64 (c + (pre L n : Int))) ∧ (∃ M', rws M' = mkUp mkC c L n ∧ OwR w' base v n M' ∧ ∀ t, t < n → (M'.getD t eV).2 = (M.getD t eV).2) ∧ L8.Only base hi w w' := by
  have hLn : L.length = n := by rw [← hML]; simpa using ho.len
  obtain ⟨a, cp, rfl, _⟩ := ho.form
  have hn5 : n ≤ 1048576 := by have := hz.n; omega
  have H0 : Hid (∃ M', rws M' = mkUp mkC c L 0 ∧ OwR w base (.slice a n cp) n M' ∧ ∀ t, t < n → (M'.getD t eV).2 = (M.getD t eV).2) := by rw [mkUp_zero]; exact hide ⟨M, hML, ho, fun _ _ => rfl⟩
  have HZ := hide hz
  have HN := hide hLn
  have HI := hide hin
  have HA : Hid (0 < n → ∃ gb, a = some ⟨gb, 0, none⟩) := hide (fun h0 => by
    rcases ho.row.2 with ⟨hv, h1⟩ | ⟨g, cap, cur, hv, _⟩
    · omega
    · obtain ⟨e, _, _⟩ := Value.slice.inj hv; exact ⟨g, e⟩)
  clear hML hz hin ho hLn
  go_enter Try.func43, Try.ntmps43
  go_wp2
  go_loopw [1, 5] (fun k i wr => ∃ j : Nat, j ≤ n ∧ i = .int .i64 j ∧ k = .int .i64 (c + (pre L j : Int)) ∧ Hid (∃ M', rws M' = mkUp mkC c L j ∧ OwR wr base (.slice a n cp) n M' ∧ ∀ t, t < n → (M'.getD t eV).2 = (M.getD t eV).2) ∧ Hid (L8.Only base hi w wr)) (fun _ i _ => n - (intOf i).toNat)
  case atStart => exact ⟨0, Nat.zero_le _, rfl, by simp [pre], H0, hide (L8.Only.refl _ _ w)⟩
  case round =>
    obtain ⟨j, hj, rfl, rfl, HM, HK⟩ := hrel
    by_cases hlt : j < n
    · obtain ⟨gb, rfl⟩ := HA.out (by omega)
      obtain ⟨M', hM', ho, hs⟩ := HM.out
      have hltI : (j : Int) < (n : Int) := by omega
      have hj0 : (0 : Int) ≤ (j : Int) := by omega
      have hjG : j < L.length := by rw [HN.out]; exact hlt
      have hgl : ((mkUp mkC c L j).getD j []).length = (L.getD j []).length := mkUp_gl mkC mkC_len c L j j hjG
      have hl40 := HZ.out.s j hjG
      have hp : pre L j ≤ 1048576 := Nat.le_trans (pre_mono L j _ (Nat.le_of_lt hjG)) HZ.out.p
      obtain ⟨mm, hm⟩ : ∃ mm, mm = (L.getD j []).length := ⟨_, rfl⟩
      have hps : pre L (j + 1) = pre L j + mm := by rw [hm]; rfl
      obtain ⟨ai, ci, hv2, hc, _⟩ := ho.at j hlt
      have hr1 : (M'.getD j eV).1 = gi (mkUp mkC c L j) j := by rw [← hM']; exact (rws_get M' j (by have := ho.len; omega)).symm
      have hlen1 : (M'.getD j eV).1.length = mm := by rw [hr1, hm]; exact hgl
      have hown := ho.idx j hlt
      rw [hlen1] at hv2 hc hown
      rw [← hm] at hl40
      rw [hv2] at hown
      have C := hide (fun wx => markIntS_from base (.slice ai mm ci) (M'.getD j eV).1 mm wx (c + (pre L j : Int)) (by omega) (by omega) (by omega))
      have HO := hide ho
      have HS := hide hs
      have HMM := hide hM'
      have HOW := hide hown
      have HV := hide hv2
      have HM2 := hide hm
      have HPS := hide hps
      clear hown hv2 hm hps hgl hr1 hlen1 ho hs hM' HM
      go_wp2_with fail
      refine (C.out _ HOW.out).mono ?_
      rintro e w1 ⟨rfl, ho1, _, hg1⟩
      have hX := HO.out.setX j hlt (mkC (c + (pre L j : Int)) mm) (by rw [HV.out, mkC_len]; exact ho1) (by rw [HV.out]; exact hg1)
      have R : ∃ M'', rws M'' = mkUp mkC c L (j + 1) ∧ OwR w1 base (.slice (some ⟨gb, 0, none⟩) n cp) n M'' ∧ ∀ t, t < n → (M''.getD t eV).2 = (M.getD t eV).2 := by
        refine ⟨_, ?_, hX, fun t ht => ?_⟩
        · rw [mkUp_succ mkC c L j hjG, ← HMM.out, ← HM2.out]
          simp [rws, List.map_set]
        · by_cases e : t = j
          · subst e
            rw [L8.getD_self M' t _ _ (by have := HO.out.len; omega)]
            exact HS.out t ht
          · rw [L8.getD_ne M' j t _ _ e]
            exact HS.out t ht
      have hK1 : L8.Only base hi w w1 := HK.out.grown hg1 (fun q e => ⟨(L8.own_lt HOW.out q e).1, by
        have := HI.out.idx j hlt q
        rw [← HS.out j hlt, HV.out] at this
        exact this e⟩)
      have HR := hide R
      have K1 := hide hK1
      clear hX R hK1 ho1 hg1 C HOW HO HS HMM HV
      go_wp2
      go_roundw
      case rel => exact ⟨j + 1, by omega, by go_num, by rw [HPS.out]; simp; omega, HR, K1⟩
      case measure => simp [intOf]; omega
    · obtain rfl : j = n := by omega
      have hltI : ¬ (j : Int) < (j : Int) := by omega
      go_wp2
      go_ret
      exact ⟨rfl, HM.out, HK.out⟩
/-- The number that marks of a sketch end with. -/
abbrev kS (L : List (List Int)) : Int := 1 + (pre L L.length : Int)
abbrev mS (L : List (List Int)) : List (List Int) := mkUp mkC 1 L L.length
set_option maxRecDepth 100000 in
set_option maxHeartbeats 1000000 in
theorem markSketch_any (base hi : Nat) (v : Value) (n : Nat) (M : List PR) (L : List (List Int)) (B : Int) (w : World) (c : Int) (hc0 : 0 ≤ c) (hc1 : c ≤ 10000000) (hML : rws M = L) (hz : SmS L) (hin : InR hi v n M) (ho : OwR w base v n M) :
    Calls Try.prog 14 #[.agg #[v, .int .i64 B], .int .i64 c] w fun e w' => e = .returned (.int .i64 (c + (pre L n : Int))) ∧ (∃ M', rws M' = mkUp mkC c L n ∧ OwR w' base v n M' ∧ ∀ t, t < n → (M'.getD t eV).2 = (M.getD t eV).2) ∧ L8.Only base hi w w' := by
  have C := hide (fun wx (ho : OwR wx base v n M) => markSS_any base hi v n c M L wx hML hc0 hc1 hz hin ho)
  have O := hide ho
  obtain ⟨a, cap, rfl, _⟩ := ho.form
  obtain ⟨k, hk⟩ : ∃ k, k = c + (pre L n : Int) := ⟨_, rfl⟩
  rw [← hk] at C ⊢
  obtain ⟨X, hX⟩ : ∃ X, X = mkUp mkC c L n := ⟨_, rfl⟩
  rw [← hX] at C ⊢
  clear ho hML hin hk hX hz hc0 hc1
  go_enter Try.func14, Try.ntmps14
  go_wp2_with fail
  refine (C.out _ (O.out.below ((Below.refl _ _).alloc (Nat.le_refl _) _))).mono ?_
  rintro e w1 ⟨rfl, hM, hon⟩
  have H := hide (And.intro hM (show L8.Only base hi w w1 from ⟨hon.os, hon.tape, hon.output, Nat.le_trans (by simp) hon.size, fun k hk ho => (hon.block k (by simp; omega) ho).trans (((Below.refl w.heap.size w).alloc (Nat.le_refl _) _).block k hk)⟩))
  clear hM hon
  go_wp2
  go_ret
  exact ⟨rfl, H.out⟩
set_option maxRecDepth 100000 in
set_option maxHeartbeats 1000000 in
theorem heldSketch_any (a : Option Addr) (n cp : Nat) (c : Int) (G : List (List Int)) (B : Int) (w : World) (hn : G.length = n) (hc0 : 0 ≤ c) (hc1 : c ≤ 10000000) (hz : SmS G) (hF : SlSI w a (mkUp mkC c G n)) :
    Calls Try.prog 15 #[.agg #[.slice a n cp, .int .i64 B], .int .i64 c] w fun e w' => e = .returned (.int .i64 (c + (pre G n : Int))) ∧ Below w.heap.size w w' := by
  have C := hide (fun wx h => held_I a n cp c G wx hn hc0 hc1 hz h)
  have O := hide hF
  have B0 := hide ((Below.refl w.heap.size w).alloc (Nat.le_refl _) (.cells #[.slice a n cp, .int .i64 B] 26 (0, 0)))
  obtain ⟨k, hk⟩ : ∃ k, k = c + (pre G n : Int) := ⟨_, rfl⟩
  have hk2 : ¬ k < 0 := by omega
  rw [← hk] at C ⊢
  clear hF hk hz hc0 hc1 hn
  go_enter Try.func15, Try.ntmps15
  go_wp2_with fail
  refine (C.out _ (O.out.below ((Below.refl _ _).alloc (Nat.le_refl _) _))).mono ?_
  rintro e w1 ⟨rfl, hb⟩
  have B1 := hide (B0.out.trans (hb.mono B0.out.size))
  clear hb
  go_wp2
  go_ret
  exact ⟨rfl, B1.out⟩
set_option maxRecDepth 100000 in
set_option maxHeartbeats 1000000 in
theorem eqSketch_same (a b : Option Addr) (L : List (List Int)) (n c1 c2 : Nat) (B : Int) (w : World) (hn : L.length = n) (ha : SlSI w a L) (hb : SlSI w b L) (hn2 : n ≤ 1048576) (hls : ∀ i, i < L.length → (L.getD i []).length ≤ 1048576) :
    Calls Try.prog 13 #[.agg #[.slice a n c1, .int .i64 B], .agg #[.slice b n c2, .int .i64 B]] w fun e w' => e = .returned (.bool true) ∧ Below w.heap.size w w' := by
  have C := hide (fun wx h1 h2 => eqIntSS_same a b L n c1 c2 wx hn h1 h2 hn2 hls)
  have A1 := hide ha
  have A2 := hide hb
  have hBB : (B != B) = false := by simp
  clear ha hb hls hn
  have O := hide (((Below.refl w.heap.size w).alloc (Nat.le_refl _) (.cells #[.slice a n c1, .int .i64 B] 26 (0, 0))).alloc (by simp) (.cells #[.slice b n c2, .int .i64 B] 26 (0, 0)))
  go_enter Try.func13, Try.ntmps13
  go_wp2_with fail
  refine (C.out _ (A1.out.below O.out) (A2.out.below O.out)).mono ?_
  rintro e w1 ⟨rfl, hb⟩
  obtain ⟨e2, e1, ez⟩ := L15.blk_two w (.cells #[.slice a n c1, .int .i64 B] 26 (0, 0)) (.cells #[.slice b n c2, .int .i64 B] 26 (0, 0))
  have g1 := (hb.block w.heap.size (by rw [ez]; omega)).trans e1
  have g2 := (hb.block (w.heap.size + 1) (by rw [ez]; omega)).trans e2
  obtain ⟨p0, p1, _, _⟩ := blkp g1
  obtain ⟨q0, q1, _, _⟩ := blkp g2
  have B1 := hide (O.out.trans (hb.mono O.out.size))
  clear hb g1 g2 e1 e2 ez
  go_wp2
  go_ret
  exact ⟨rfl, B1.out⟩
set_option maxRecDepth 100000 in
set_option maxHeartbeats 1000000 in
theorem szSketch_any (a : Option Addr) (L : List (List Int)) (n cap : Nat) (B Z : Int) (w : World) (hn : L.length = n) (hm : n ≤ 9223372036854775807) (hs : SlSI w a L) (hst : TxSI L) (h0 : 0 ≤ Z) (h1 : Z ≤ 1048576) (r : Int) (hr : r = if (wtSI L : Int) ≤ Z then Z - (wtSI L : Int) else -1) :
    Calls Try.prog 9 #[.agg #[.slice a n cap, .int .i64 B], .int .i64 Z] w fun e w' => e = .returned (.int .i64 r) ∧ Below w.heap.size w w' := by
  have B0 := hide ((Below.refl w.heap.size w).alloc (Nat.le_refl _) (.cells #[.slice a n cap, .int .i64 B] 24 (0, 0)))
  have C := hide (fun wx h => szIntSS_any a L n cap Z wx hn hm h hst h0 h1 r hr)
  have O := hide hs
  by_cases hz : r < 0
  · have e1 : r = -1 := by rw [hr] at hz ⊢; split at hz <;> rename_i hc <;> simp [hc] ; omega
    subst e1
    clear hs hst h0 h1 hr
    go_enter Try.func9, Try.ntmps9
    go_wp2_with fail
    refine (C.out _ (O.out.below ((Below.refl _ _).alloc (Nat.le_refl _) _))).mono ?_
    rintro e w1 ⟨rfl, hb⟩
    have B1 := hide (B0.out.trans (hb.mono B0.out.size))
    clear hb
    go_wp2
    go_ret
    exact ⟨rfl, B1.out⟩
  · clear hs hst h0 h1 hr
    go_enter Try.func9, Try.ntmps9
    go_wp2_with fail
    refine (C.out _ (O.out.below ((Below.refl _ _).alloc (Nat.le_refl _) _))).mono ?_
    rintro e w1 ⟨rfl, hb⟩
    have B1 := hide (B0.out.trans (hb.mono B0.out.size))
    clear hb
    go_wp2
    go_ret
    exact ⟨rfl, B1.out⟩
set_option maxRecDepth 100000 in
set_option maxHeartbeats 1000000 in
theorem toSketch_any (a : Option Addr) (L : List (List Int)) (n cap : Nat) (B : Int) (w : World) (hn : L.length = n) (hs : SlSI w a L) (hn2 : n ≤ 1048576) (hsz : ∀ i, i < L.length → (L.getD i []).length ≤ 1048576) :
    Calls Try.prog 11 #[.agg #[.slice a n cap, .int .i64 B]] w fun e w' => ∃ g, e = .returned (.agg #[.slice (some ⟨g, 0, none⟩) n n, .int .i64 B]) ∧ (∃ M, rws M = L ∧ OwR w' w.heap.size (.slice (some ⟨g, 0, none⟩) n n) n M) ∧ Below w.heap.size w w' := by
  have C := hide (fun w hs => toIntSS_any a L n cap w hn hs hn2 hsz)
  have HS := hide hs
  have HN := hide hn
  clear hs hn hsz
  go_enter Try.func11, Try.ntmps11
  go_wp2_with fail
  refine (C.out _ (HS.out.below ((((Below.refl _ _).alloc (Nat.le_refl _) _).alloc (by simp) _).alloc (by simp; omega) _))).mono ?_
  rintro e w1 ⟨rfl, ⟨⟨gx, hO⟩, vs, hV⟩, _, hb⟩
  obtain ⟨M, hM, ho⟩ := OwR.ofSI hO hV HN.out
  obtain ⟨b3, b2, b1, bz⟩ := L15.blk_three w (.cells #[.slice a n cap, .int .i64 B] 24 (0, 0)) (.cells #[.slice none 0 0, .int .i64 0] 26 (0, 0)) (.cells #[.slice none 0 0, .int .i64 0] 26 (0, 0))
  have G3 := (hb.block (w.heap.size + 2) (by simp)).trans b3
  have G2 := (hb.block (w.heap.size + 1) (by simp)).trans b2
  have G1 := (hb.block w.heap.size (by simp; omega)).trans b1
  obtain ⟨c0, c1, c3, c4⟩ := blkp G3
  obtain ⟨d0, d1, d3, d4⟩ := blkp G2
  obtain ⟨f0, f1, _, _⟩ := blkp G1
  have ho' : OwR w1 (w.heap.size + 3) (.slice (some ⟨w.heap.size + 1 + 1 + 1, 0, none⟩) n n) n M := by
    simp only [World.size_alloc] at ho
    exact ho.base (by omega)
  have H1 := hide ho'
  have HM := hide hM
  have BB0 := hide (hb.mono (show w.heap.size ≤ _ by simp; omega))
  have BB := hide ((((Below.refl w.heap.size w).alloc (Nat.le_refl _) (.cells #[.slice a n cap, .int .i64 B] 24 (0, 0))).alloc (by simp) (.cells #[.slice none 0 0, .int .i64 0] 26 (0, 0))).alloc (by simp; omega) (.cells #[.slice none 0 0, .int .i64 0] 26 (0, 0)))
  clear ho hb G3 G2 G1 b1 b2 b3 bz ho' hM hO hV
  go_wp2
  refine bodyPost_ret (v := .agg #[.slice (some ⟨w.heap.size + 1 + 1 + 1, 0, none⟩) n n, .int .i64 B]) (by simp [results, Try.f11, go_sem, d0, d1]) rfl ⟨_, rfl, ⟨M, HM.out, ?_⟩, ?_⟩
  · have z1 : w.heap.size + 1 + 1 < w.heap.size + 3 := by omega
    have z2 : w.heap.size + 1 < w.heap.size + 3 := by omega
    exact OwR.base (b1 := w.heap.size + 3) ((((H1.out.setC ⟨_, _, none⟩ _ z1).setC ⟨_, _, none⟩ _ z1).setC ⟨_, _, none⟩ _ z2).setC ⟨_, _, none⟩ _ z2) (by omega)
  · exact ((((BB.out.trans BB0.out).setCell (p := ⟨_, _, none⟩) (by show w.heap.size ≤ w.heap.size + 1 + 1; omega) _).setCell (p := ⟨_, _, none⟩) (by show w.heap.size ≤ w.heap.size + 1 + 1; omega) _).setCell (p := ⟨_, _, none⟩) (by show w.heap.size ≤ w.heap.size + 1; omega) _).setCell (p := ⟨_, _, none⟩) (by show w.heap.size ≤ w.heap.size + 1; omega) _
end Go.Proofs.Ytfmfnlpajoikman.L15
