/-
  Contract: impl.copyLog.
-/
import Derived.Test.YtdnmklcnlndmhazDoorL6CopyLaw
import Derived.Test.YtdnmklcnlndmhazDoorL6Marks
namespace Go.Proofs.YtdnmklcnlndmhazDoor.L6
open Go.RowKit L1
set_option linter.unusedVariables false

/-- Pieces in memory, with the slices that their Indexes are. -/
theorem slC_vals {w : World} {a : Option Addr} {L : List Pc} (h : SlC w a L) : ∃ M : List PV, pcs M = L ∧ (∀ i, i < L.length → ∃ ai ci, (M.getD i eV).2 = .slice ai (gc L i).x.length ci ∧ Sl w ai (gc L i).x) ∧ (∀ j v, (flatC M)[j]? = some v → ∃ b off, a = some ⟨b, off, none⟩ ∧ w.cell? ⟨b, off + j, none⟩ = some v) := by
  obtain ⟨F, hF⟩ : ∃ F : Nat → Value, ∀ i, i < L.length → ∃ b off ai ci, a = some ⟨b, off, none⟩ ∧ F i = .slice ai (gc L i).x.length ci ∧ AtC w b (off + i * 3) (gc L i) ai ci := by
    classical
    refine ⟨fun i => if hi : i < L.length then .slice (Classical.choose (Classical.choose_spec (Classical.choose_spec (h i hi))).2) (gc L i).x.length (Classical.choose (Classical.choose_spec (Classical.choose_spec (Classical.choose_spec (h i hi))).2)) else .slice none 0 0, fun i hi => ?_⟩
    have h1 := Classical.choose_spec (Classical.choose_spec (h i hi))
    have h2 := Classical.choose_spec (Classical.choose_spec h1.2)
    exact ⟨_, _, _, _, h1.1, by simp only [dif_pos hi], h2⟩
  refine ⟨(List.range L.length).map (fun i => (gc L i, F i)), ?_, fun i hi => ?_, fun j v hv => ?_⟩
  · apply List.ext_getElem?
    intro j
    by_cases hj : j < L.length
    · simp [gc, List.getD, hj]
    · rw [List.getElem?_eq_none (by simp; omega), List.getElem?_eq_none (by omega)]
  · obtain ⟨b, off, ai, ci, _, h2, h3⟩ := hF i hi
    have hgd : ((List.range L.length).map (fun i => (gc L i, F i))).getD i eV = (gc L i, F i) := by simp [List.getD, hi]
    exact ⟨ai, ci, by rw [hgd]; exact h2, h3.l⟩
  · have hj : j < (flatC ((List.range L.length).map (fun i => (gc L i, F i)))).length := by
      by_cases hj : j < (flatC ((List.range L.length).map (fun i => (gc L i, F i)))).length
      · exact hj
      · rw [List.getElem?_eq_none (by omega)] at hv; cases hv
    rw [flatC_len] at hj
    simp at hj
    have hi : j / 3 < L.length := by omega
    have hi' : j / 3 < ((List.range L.length).map (fun i => (gc L i, F i))).length := by simp; exact hi
    obtain ⟨f1, f2, f3⟩ := flatC_get _ _ hi'
    have hgd : ((List.range L.length).map (fun i => (gc L i, F i))).getD (j / 3) eV = (gc L (j / 3), F (j / 3)) := by simp [List.getD, hi]
    rw [hgd] at f1 f2 f3
    simp only at f1 f2 f3
    obtain ⟨b, off, ai, ci, ha, hFi, hat⟩ := hF (j / 3) hi
    refine ⟨b, off, ha, ?_⟩
    have hm : j % 3 = 0 ∨ j % 3 = 1 ∨ j % 3 = 2 := by omega
    rcases hm with e | e | e
    · have ej : j = j / 3 * 3 := by omega
      rw [← ej] at f1; rw [f1] at hv; cases hv
      rw [show off + j = off + j / 3 * 3 by omega]; exact hat.f
    · have ej : j = j / 3 * 3 + 1 := by omega
      rw [← ej] at f2; rw [f2] at hv; cases hv
      rw [show off + j = off + j / 3 * 3 + 1 by omega]; exact hat.s
    · have ej : j = j / 3 * 3 + 2 := by omega
      rw [← ej] at f3; rw [f3] at hv; cases hv
      rw [show off + j = off + j / 3 * 3 + 2 by omega, hFi]; exact hat.x
/-- Pieces of which the first so many have an Index of their own. -/
structure OwK (w : World) (base : Nat) (v : Value) (n k : Nat) (M : List PV) : Prop where
  len : M.length = n
  row : w.ownsRow base 51 3 v n (flatC M)
  idx : ∀ i, i < k → w.ownsRow base 3 1 (M.getD i eV).2 (M.getD i eV).1.x.length ((M.getD i eV).1.x.map (Value.int .i64))
  apart : ∀ i j, i < j → j < k → ∀ g, (M.getD i eV).2.ownBlock = some g → (M.getD j eV).2.ownBlock ≠ some g
theorem OwK.all {w : World} {base n : Nat} {v : Value} {M : List PV} (h : OwK w base v n n M) : OwC w base v n M := ⟨h.len, h.row, h.idx, h.apart⟩
theorem OwK.grown {w w' : World} {base n k : Nat} {v : Value} {M : List PV} (h : OwK w base v n k M) (hg : w.grownBy w' none) : OwK w' base v n k M :=
  ⟨h.len, own_keptC h.row hg (fun _ _ e => by cases e), fun i hi => own_keptC (h.idx i hi) hg (fun _ _ e => by cases e), h.apart⟩
/-- The next Index. -/
theorem OwK.step {w : World} {base g n k : Nat} {M : List PV} (h : OwK w base (.slice (some ⟨g, 0, none⟩) n n) n k M) (hk : k < n) (u : Value) (hu : w.ownsRow base 3 1 u (M.getD k eV).1.x.length ((M.getD k eV).1.x.map (Value.int .i64)))
    (hnew : ∀ i, i < k → ∀ b, u.ownBlock = some b → (M.getD i eV).2.ownBlock ≠ some b) :
    OwK (w.setCell ⟨g, k * 3 + 2, none⟩ u) base (.slice (some ⟨g, 0, none⟩) n n) n (k + 1) (M.set k ((M.getD k eV).1, u)) ∧ w.grownBy (w.setCell ⟨g, k * 3 + 2, none⟩ u) (some g) := by
  have h1 := h.row.stored (k * 3 + 2) u
  have hl := h.len
  have hfl : (flatC M).length = n * 3 := by rw [flatC_len, hl]
  have keep : ∀ {c m : Nat} {v : Value} {ys : List Value}, w.ownsRow base 3 c v m ys → (w.setCell ⟨g, k * 3 + 2, none⟩ u).ownsRow base 3 c v m ys := fun hv =>
    own_keptC hv h1.2 (fun b hb e => by
      simp at e
      subst e
      exact own_two h.row hv int_piece g rfl hb)
  refine ⟨⟨by simpa using hl, ?_, fun i hi => ?_, fun i j hij hj => ?_⟩, h1.2⟩
  · obtain ⟨f1, f2, f3⟩ := flatC_get M k (by omega)
    rw [flatC_set]
    unfold L6.setC
    simp only
    have e1 : (flatC M).set (k * 3) (.int .i64 (M.getD k eV).1.f) = flatC M := by
      apply List.ext_getElem?
      intro j
      by_cases e : j = k * 3
      · subst e
        rw [List.getElem?_set_self (by omega), f1]
      · rw [List.getElem?_set_ne (by omega)]
    have e2 : (flatC M).set (k * 3 + 1) (.string (M.getD k eV).1.s) = flatC M := by
      apply List.ext_getElem?
      intro j
      by_cases e : j = k * 3 + 1
      · subst e
        rw [List.getElem?_set_self (by omega), f2]
      · rw [List.getElem?_set_ne (by omega)]
    rw [e1, e2]
    exact h1.1
  · by_cases e : i = k
    · subst e
      rw [getD_set_self M i _ (by omega)]
      exact keep hu
    · rw [getD_set_ne M k i _ e]
      exact keep (h.idx i (by omega))
  · intro b
    by_cases e : j = k
    · subst e
      rw [getD_set_self M j _ (by omega), getD_set_ne M j i _ (by omega)]
      intro h1 h2
      exact hnew i (by omega) b h2 h1
    · rw [getD_set_ne M k i _ (by omega), getD_set_ne M k j _ e]
      exact h.apart i j hij (by omega) b

set_option maxRecDepth 100000 in
set_option maxHeartbeats 4000000 in
theorem copyLog_any (a : Option Addr) (L : List Pc) (n cap : Nat) (B : Int) (w : World) (hn : L.length = n) (h1 : 1 ≤ n) (h20 : n ≤ 20) (hs : SlC w a L) (hX : ∀ i, i < n → (gc L i).x.length ≤ 60) :
    Calls Tryd.prog 37 #[.agg #[.slice a n cap, .int .i64 B]] w fun e w' => ∃ g M, e = .returned (.agg #[.slice (some ⟨g, 0, none⟩) n n, .int .i64 B]) ∧ pcs M = L ∧ OwC w' w.heap.size (.slice (some ⟨g, 0, none⟩) n n) n M ∧ Below w.heap.size w w' := by
  obtain ⟨i0, hi, hz0, hz1, hz2⟩ := info_parts info_piece
  obtain ⟨b, off, rfl, _⟩ := hs 0 (by omega)
  obtain ⟨W, hW⟩ : ∃ W, W = (w.alloc (.cells #[.slice (some ⟨b, off, none⟩) n cap, .int .i64 B] 29 (0, 0))).alloc (.cells #[.slice none 0 0, .int .i64 0] 29 (0, 0)) := ⟨_, rfl⟩
  have hWs : W.heap.size = w.heap.size + 2 := by rw [hW]; simp
  have hbW : Below w.heap.size w W := by rw [hW]; exact ((Below.refl _ _).alloc (Nat.le_refl _) _).alloc (by simp) _
  obtain ⟨w1, hmk, hown1, hg1⟩ := run_make_full (P := Tryd.prog) W W.heap.size 27 51 i0 (.agg #[.int .i64 0, .string ByteArray.empty, .slice none 0 0]) 3 Tryd.underlying27 hi hz0 hz1 .i64 .i64 n (by rw [hz2]; omega) (by unfold maxLen; omega) (Nat.le_refl _)
  have hb1 : Below W.heap.size W w1 := (Below.refl _ _).grown hg1 (Nat.le_refl _) (fun k hk => by cases hk)
  obtain ⟨M0, hM0, hM1, hM2⟩ := slC_vals hs
  have hM0l : M0.length = n := by rw [← hn, ← hM0]; simp
  have hbw1 : Below w.heap.size w w1 := hbW.trans (hb1.mono (by omega))
  have G0 : W.heap[w.heap.size]? = some (.cells #[.slice (some ⟨b, off, none⟩) n cap, .int .i64 B] 29 (0, 0)) ∧ W.heap[w.heap.size + 1]? = some (.cells #[.slice none 0 0, .int .i64 0] 29 (0, 0)) := by
    rw [hW]
    have e2 := blk_new (w.alloc (.cells #[.slice (some ⟨b, off, none⟩) n cap, .int .i64 B] 29 (0, 0))) (.cells #[.slice none 0 0, .int .i64 0] 29 (0, 0))
    rw [World.size_alloc] at e2
    exact ⟨(((Below.refl (w.alloc (.cells #[.slice (some ⟨b, off, none⟩) n cap, .int .i64 B] 29 (0, 0))).heap.size _).alloc (Nat.le_refl _) _).block w.heap.size (by simp)).trans (blk_new _ _), e2⟩
  obtain ⟨k0, k1, _, _⟩ := blkp ((hb1.block w.heap.size (by omega)).trans G0.1)
  have HG1 := hide ((hb1.block (w.heap.size + 1) (by omega)).trans G0.2)
  have hsrc : ∀ j v, (flatC M0)[j]? = some v → w1.cell? ((⟨b, off, none⟩ : Addr).add j) = some v := fun j v hv => by
    obtain ⟨b', off', he, hc⟩ := hM2 j v hv
    cases he
    rw [add_at6]
    exact (hbw1.cell (p := ⟨b, off + j, none⟩) (blk_lt hc)).trans hc
  have hone : ∀ v ∈ flatC M0, v.oneCell' = true := flatC_one M0 (fun q hq => by
    obtain ⟨i, hi, rfl⟩ := List.getElem_of_mem hq
    obtain ⟨ai, ci, e, _⟩ := hM1 i (by omega)
    rw [show M0[i] = M0.getD i eV by simp [List.getD, List.getElem?_eq_getElem hi], e]
    rfl)
  have HSRC := hide hsrc
  have HONE := hide hone
  have HM0 := hide hM0
  have HM1 := hide hM1
  have HML := hide hM0l
  have HX := hide hX
  have HN := hide hn
  have HBW1 := hide hbw1
  rw [hWs] at hmk hown1
  have HO1 := hide hown1
  have hsz1 : w.heap.size + 2 ≤ w1.heap.size := by have := hb1.size; omega
  have hinf : (Tryd.prog.info? 51).map (·.size) = some 3 := by rw [hi]; simp [hz1]
  obtain ⟨w2, hcp, ho2, hg2⟩ := run_copy_all Tryd.prog w1 27 27 3 51 3 Tryd.underlying27 hinf (w.heap.size + 2) (w.heap.size + 2) n ⟨b, off, none⟩ cap _ HO1.out (flatC M0) (by rw [flatC_len, HML.out]) HSRC.out HONE.out
  have k0' := grown_cell hg2 ⟨w.heap.size, 0, none⟩ k0 (by simp)
  have k1' := grown_cell hg2 ⟨w.heap.size, 1, none⟩ k1 (by simp)
  have HR0 : Hid (w2.heap[w.heap.size + 1]? = some (.cells #[.slice none 0 0, .int .i64 0] 29 (0, 0))) := (hg2.block (w.heap.size + 1) (by omega) (by simp)).trans HG1.out
  have HK0 : Hid (OwK w2 (w.heap.size + 2) (.slice (some ⟨w.heap.size + 2, 0, none⟩) n n) n 0 M0) := ⟨HML.out, ho2, fun i hi => absurd hi (Nat.not_lt_zero _), fun i j _ hj => absurd hj (Nat.not_lt_zero _)⟩
  have HB2 : Hid (Below w.heap.size w w2) := HBW1.out.grown hg2 (by omega) (fun q hq => by cases hq; omega)
  subst hW
  clear ho2 hg2
  clear hs hn hX hM0 hM1 hM2 hM0l hsrc hone hown1 hg1 hb1 hbw1 hbW hWs G0
  go_enter Tryd.func37, Tryd.ntmps37
  go_wp2
  go_loopw [16] (fun i wr => ∃ (k : Nat) (N : List PV), k ≤ n ∧ i = .int .i64 k ∧ Hid (OwK wr (w.heap.size + 2) (.slice (some ⟨w.heap.size + 2, 0, none⟩) n n) n k N) ∧ Hid (∀ t, k ≤ t → t < n → N.getD t eV = M0.getD t eV) ∧ Hid (pcs N = L) ∧ wr.cell? ⟨w.heap.size, 1, none⟩ = some (.int .i64 B) ∧ Hid (wr.heap[w.heap.size + 1]? = some (.cells #[.slice none 0 0, .int .i64 0] 29 (0, 0))) ∧ Below w.heap.size w wr) (fun i _ => n - (intOf i).toNat)
  case atStart => exact ⟨0, M0, Nat.zero_le _, rfl, HK0.out, fun _ _ _ => rfl, HM0.out, k1', HR0.out, HB2.out⟩
  case round =>
    obtain ⟨k, N, hk, rfl, HK, HT2, HP, kB, HR, hbel⟩ := hrel
    by_cases hlt : k < n
    · have hltI : (k : Int) < (n : Int) := by omega
      have hNk := HT2.out k (Nat.le_refl _) hlt
      obtain ⟨ai, ci, hv, hsl⟩ := HM1.out k (by rw [HN.out]; exact hlt)
      have hNl := HK.out.len
      have hp1 : (N.getD k eV).1 = gc L k := by
        have := pcs_get N k (by omega)
        rw [HP.out] at this
        exact this.symm
      obtain ⟨f1, f2, f3⟩ := flatC_get N k (by omega)
      rw [hp1] at f1 f2
      rw [hNk, hv] at f3
      have hfl : (flatC N).length = n * 3 := by rw [flatC_len, hNl]
      have c1 := (HK.out.row.cellAt (k * 3) (by omega)).trans f1
      have c2 := (HK.out.row.cellAt (k * 3 + 1) (by omega)).trans f2
      have c3 := (HK.out.row.cellAt (k * 3 + 2) (by omega)).trans f3
      have hxl := HX.out k hlt
      have hsl2 := hsl.below hbel
      obtain ⟨p, hp⟩ : ∃ p, p = gc L k := ⟨_, rfl⟩
      rw [← hp] at c1 c2 c3 hsl2 hxl hp1
      obtain ⟨f, s, x⟩ := p
      simp only at c1 c2 c3 hsl2 hxl
      obtain ⟨m, hm⟩ : ∃ m, m = x.length := ⟨_, rfl⟩
      rw [← hm] at c3 hxl
      have hrz : w.heap.size + 2 ≤ wr.heap.size := by have := (own_ltC HK.out.row (w.heap.size + 2) rfl).2; omega
      have HSL := hide hsl2
      have HMX := hide hm
      have HP1 := hide hp1
      have BB := hide hbel
      clear hNk hv hsl f1 f2 f3 hp hm hsl2 hp1 hfl hbel
      go_wp2_with (first
        | (at_builtin; refine wpList_append_copy rfl _ _ rfl (w.heap.size + 2) none ai 0 m ci x HMX.out.symm (by omega) rfl (World.ownsRow_nil _ _ _ _) rfl (HSL.out.below ((Below.refl _ _).alloc (Nat.le_refl _) _)) (by simp; omega) ?_)
        | go_in)
      intro a' c' w6 h6 g6 hat6
      have hal := (Below.refl wr.heap.size wr).alloc (Nat.le_refl _) (.cells #[.int .i64 f, .string s, .slice ai m ci] 51 (0, 0))
      have g7 : wr.grownBy w6 none := ⟨g6.os.trans hal.os, g6.tape.trans hal.tape, g6.output.trans hal.output, Nat.le_trans hal.size g6.size, fun q hq hne => (g6.block q (by simp; omega) (by simp [Value.ownBlock])).trans (hal.block q hq)⟩
      have K6 := HK.out.grown g7
      have kB6 := grown_cell g7 ⟨w.heap.size, 1, none⟩ kB (by simp)
      have HR6 : Hid (w6.heap[w.heap.size + 1]? = some (.cells #[.slice none 0 0, .int .i64 0] 29 (0, 0))) := (g7.block (w.heap.size + 1) (by omega) (by simp)).trans HR.out
      have B6 := BB.out.grown g7 (Nat.le_trans BB.out.size (Nat.le_refl _)) (fun q hq => by cases hq)
      have hcl := K6.row.cellAt (k * 3 + 2) (by omega)
      have hfr := K6.row.frozenAt (k * 3 + 2)
      have hfl6 : (flatC N).length = n * 3 := by rw [flatC_len, HK.out.len]
      obtain ⟨u2, hu2⟩ : ∃ v, w6.cell? ⟨w.heap.size + 2, k * 3 + 2, none⟩ = some v := ⟨_, hcl.trans (List.getElem?_eq_getElem (by omega))⟩
      have P := K6.step hlt (.slice a' m c') (by rw [HP1.out]; show w6.ownsRow _ _ _ _ x.length _; rw [← HMX.out]; exact h6) (fun q hq b hb e => by
        have h1 := (own_ltC (HK.out.idx q hq) b e).2
        rcases hat6 with h | h
        · rw [h] at hb; simp [Value.ownBlock] at hb
        · rw [h] at hb; simp at hb; omega)
      have R : ∃ (k' : Nat) (N' : List PV), k' ≤ n ∧ Value.int .i64 ((k : Int) + 1) = .int .i64 k' ∧ Hid (OwK (w6.setCell ⟨w.heap.size + 2, k * 3 + 2, none⟩ (.slice a' m c')) (w.heap.size + 2) (.slice (some ⟨w.heap.size + 2, 0, none⟩) n n) n k' N') ∧ Hid (∀ t, k' ≤ t → t < n → N'.getD t eV = M0.getD t eV) ∧ Hid (pcs N' = L) ∧ (w6.setCell ⟨w.heap.size + 2, k * 3 + 2, none⟩ (.slice a' m c')).cell? ⟨w.heap.size, 1, none⟩ = some (.int .i64 B) ∧ Hid ((w6.setCell ⟨w.heap.size + 2, k * 3 + 2, none⟩ (.slice a' m c')).heap[w.heap.size + 1]? = some (.cells #[.slice none 0 0, .int .i64 0] 29 (0, 0))) ∧ Below w.heap.size w (w6.setCell ⟨w.heap.size + 2, k * 3 + 2, none⟩ (.slice a' m c')) := by
        refine ⟨k + 1, _, by omega, by simp, P.1, fun t h1 h2 => ?_, ?_, grown_cell P.2 ⟨w.heap.size, 1, none⟩ kB6 (by simp), (P.2.block (w.heap.size + 1) (by have := g7.size; omega) (by simp)).trans HR6.out, B6.grown P.2 (by have := g7.size; omega) (fun q hq => by cases hq; omega)⟩
        · rw [getD_set_ne N k t _ (by omega)]
          exact HT2.out t (by omega) h2
        · show pcs (N.set k _) = L
          rw [← HP.out]
          apply List.ext_getElem?
          intro j
          by_cases e : j = k
          · subst e
            have hj : j < N.length := by rw [HK.out.len]; exact hlt
            rw [List.getElem?_map, List.getElem?_map, List.getElem?_set_self hj, List.getElem?_eq_getElem hj]
            simp [List.getD, List.getElem?_eq_getElem hj]
          · rw [List.getElem?_map, List.getElem?_map, List.getElem?_set_ne (by omega)]
      have HRR := hide R
      clear R P K6 hcl hfl6 h6 g6 g7 hal B6 hat6 kB6 HR6
      go_wp2
      go_roundw
      case rel => exact HRR.out
      case measure => simp [intOf]; omega
    · obtain rfl : k = n := by omega
      have hltI : ¬ (k : Int) < (k : Int) := by omega
      obtain ⟨z0, z1, z2, z3⟩ := blkp HR.out
      have BB := hide hbel
      clear hbel
      go_wp2
      refine bodyPost_ret (v := .agg #[.slice (some ⟨w.heap.size + 2, 0, none⟩) k k, .int .i64 B]) (by simp [results, Tryd.f37, go_sem, z0, z1]) rfl ⟨_, rfl, N, HP.out, ?_, ?_⟩
      · have z : w.heap.size + 1 < w.heap.size + 2 := by omega
        exact (((HK.out.all).setC ⟨_, _, none⟩ _ z).setC ⟨_, _, none⟩ _ z).base (by omega)
      · exact (BB.out.setCell (p := ⟨_, _, none⟩) (by show w.heap.size ≤ w.heap.size + 1; omega) _).setCell (p := ⟨_, _, none⟩) (by show w.heap.size ≤ w.heap.size + 1; omega) _
end Go.Proofs.YtdnmklcnlndmhazDoor.L6
