/-
  Contract: impl.copyLog.
  The mathematics of CutFrom: where a log is cut, and what stands there then. Nothing of the program's text is proved here.
  Contract: impl.shorten: the first pieces of a row that is the call's own; those behind them are cleared.
  Contracts: slices.Equal at ints, impl.goodPiece.
  Contract: impl.goodPieces.
  Contracts: impl.endOf, impl.recordsIn, impl.isWithin.
  Contracts: impl.GoodLog, impl.EndOf.
  Contracts: impl.isWithin, impl.pieceAt, impl.placeOf.
-/
import Derived.Test.YtbcljhafdpnjbabDoorBundle5
import Derived.Test.YtbcljhafdpnjbabDoorBundle4
import Derived.Test.YtbcljhafdpnjbabDoorBundle2
import Derived.Test.YtbcljhafdpnjbabDoorBundle3
import Derived.Deep.QuietTactic
import Derived.BigQuiet
import Derived.Deep.RegionHeld3
namespace Go.Proofs.YtbcljhafdpnjbabDoor.L6
open Go.RowKit L1
set_option linter.unusedVariables false

/-- Pieces in memory, with the slices that their Indexes are. -/
theorem slC_vals {w : World} {a : Option Addr} {L : List Pc} (h : SlC w a L) : ∃ M : List PV, pcs M = L ∧ (∀ i, i < L.length → ∃ ai ci, (M.getD i eV).2 = .slice ai (gc L i).x.length ci ∧ Sl w ai (gc L i).x) ∧ (∀ j v, (flatC M)[j]? = some v → ∃ b off, a = some ⟨b, off, none⟩ ∧ w.cell? ⟨b, off + j, none⟩ = some v) := by
  obtain ⟨F, hF⟩ : ∃ F : Nat → Value, ∀ i, i < L.length → ∃ b off ai ci, a = some ⟨b, off, none⟩ ∧ F i = .slice ai (gc L i).x.length ci ∧ AtC w b (off + i * 3) (gc L i) ai ci := by
    classical
    refine ⟨fun i => if hi : i < L.length then .slice (Classical.choose (Classical.choose_spec (Classical.choose_spec (h i hi))).2) (gc L i).x.length (Classical.choose (Classical.choose_spec (Classical.choose_spec (Classical.choose_spec (h i hi))).2)) else .slice none 0 0, fun i hi => ?_⟩
    have h1 := Classical.choose_spec (Classical.choose_spec (h i hi))
    have h2 := Classical.choose_spec (Classical.choose_spec h1.2)
    exact ⟨_, _, _, _, h1.1, by simp only [dif_pos hi], h2⟩
  refine ⟨(List.range L.length).map (fun i => (gc L i, F i)), ?_, fun i hi => ?_, fun j v hv => ?_⟩
  · apply List.ext_getElem?
    intro j
    by_cases hj : j < L.length
    · simp [gc, List.getD, hj]
    · rw [List.getElem?_eq_none (by simp; omega), List.getElem?_eq_none (by omega)]
  · obtain ⟨b, off, ai, ci, _, h2, h3⟩ := hF i hi
    have hgd : ((List.range L.length).map (fun i => (gc L i, F i))).getD i eV = (gc L i, F i) := by simp [List.getD, hi]
    exact ⟨ai, ci, by rw [hgd]; exact h2, h3.l⟩
  · have hj : j < (flatC ((List.range L.length).map (fun i => (gc L i, F i)))).length := by
      by_cases hj : j < (flatC ((List.range L.length).map (fun i => (gc L i, F i)))).length
      · exact hj
      · rw [List.getElem?_eq_none (by omega)] at hv; cases hv
    rw [flatC_len] at hj
    simp at hj
    have hi : j / 3 < L.length := by omega
    have hi' : j / 3 < ((List.range L.length).map (fun i => (gc L i, F i))).length := by simp; exact hi
    obtain ⟨f1, f2, f3⟩ := flatC_get _ _ hi'
    have hgd : ((List.range L.length).map (fun i => (gc L i, F i))).getD (j / 3) eV = (gc L (j / 3), F (j / 3)) := by simp [List.getD, hi]
    rw [hgd] at f1 f2 f3
    simp only at f1 f2 f3
    obtain ⟨b, off, ai, ci, ha, hFi, hat⟩ := hF (j / 3) hi
    refine ⟨b, off, ha, ?_⟩
    have hm : j % 3 = 0 ∨ j % 3 = 1 ∨ j % 3 = 2 := by omega
    rcases hm with e | e | e
    · have ej : j = j / 3 * 3 := by omega
      rw [← ej] at f1; rw [f1] at hv; cases hv
      rw [show off + j = off + j / 3 * 3 by omega]; exact hat.f
    · have ej : j = j / 3 * 3 + 1 := by omega
      rw [← ej] at f2; rw [f2] at hv; cases hv
      rw [show off + j = off + j / 3 * 3 + 1 by omega]; exact hat.s
    · have ej : j = j / 3 * 3 + 2 := by omega
      rw [← ej] at f3; rw [f3] at hv; cases hv
      rw [show off + j = off + j / 3 * 3 + 2 by omega, hFi]; exact hat.x
/-- Pieces of which the first so many have an Index of their own. -/
structure OwK (w : World) (base : Nat) (v : Value) (n k : Nat) (M : List PV) : Prop where
  len : M.length = n
  row : w.ownsRow base 50 3 v n (flatC M)
  idx : ∀ i, i < k → w.ownsRow base 3 1 (M.getD i eV).2 (M.getD i eV).1.x.length ((M.getD i eV).1.x.map (Value.int .i64))
  apart : ∀ i j, i < j → j < k → ∀ g, (M.getD i eV).2.ownBlock = some g → (M.getD j eV).2.ownBlock ≠ some g
theorem OwK.all {w : World} {base n : Nat} {v : Value} {M : List PV} (h : OwK w base v n n M) : OwC w base v n M := ⟨h.len, h.row, h.idx, h.apart⟩
theorem OwK.grown {w w' : World} {base n k : Nat} {v : Value} {M : List PV} (h : OwK w base v n k M) (hg : w.grownBy w' none) : OwK w' base v n k M :=
  ⟨h.len, own_keptC h.row hg (fun _ _ e => by cases e), fun i hi => own_keptC (h.idx i hi) hg (fun _ _ e => by cases e), h.apart⟩
/-- The next Index. -/
theorem OwK.step {w : World} {base g n k : Nat} {M : List PV} (h : OwK w base (.slice (some ⟨g, 0, none⟩) n n) n k M) (hk : k < n) (u : Value) (hu : w.ownsRow base 3 1 u (M.getD k eV).1.x.length ((M.getD k eV).1.x.map (Value.int .i64)))
    (hnew : ∀ i, i < k → ∀ b, u.ownBlock = some b → (M.getD i eV).2.ownBlock ≠ some b) :
    OwK (w.setCell ⟨g, k * 3 + 2, none⟩ u) base (.slice (some ⟨g, 0, none⟩) n n) n (k + 1) (M.set k ((M.getD k eV).1, u)) ∧ w.grownBy (w.setCell ⟨g, k * 3 + 2, none⟩ u) (some g) := by
  have h1 := h.row.stored (k * 3 + 2) u
  have hl := h.len
  have hfl : (flatC M).length = n * 3 := by rw [flatC_len, hl]
  have keep : ∀ {c m : Nat} {v : Value} {ys : List Value}, w.ownsRow base 3 c v m ys → (w.setCell ⟨g, k * 3 + 2, none⟩ u).ownsRow base 3 c v m ys := fun hv =>
    own_keptC hv h1.2 (fun b hb e => by
      simp at e
      subst e
      exact own_two h.row hv int_piece g rfl hb)
  refine ⟨⟨by simpa using hl, ?_, fun i hi => ?_, fun i j hij hj => ?_⟩, h1.2⟩
  · obtain ⟨f1, f2, f3⟩ := flatC_get M k (by omega)
    rw [flatC_set]
    unfold L6.setC
    simp only
    have e1 : (flatC M).set (k * 3) (.int .i64 (M.getD k eV).1.f) = flatC M := by
      apply List.ext_getElem?
      intro j
      by_cases e : j = k * 3
      · subst e
        rw [List.getElem?_set_self (by omega), f1]
      · rw [List.getElem?_set_ne (by omega)]
    have e2 : (flatC M).set (k * 3 + 1) (.string (M.getD k eV).1.s) = flatC M := by
      apply List.ext_getElem?
      intro j
      by_cases e : j = k * 3 + 1
      · subst e
        rw [List.getElem?_set_self (by omega), f2]
      · rw [List.getElem?_set_ne (by omega)]
    rw [e1, e2]
    exact h1.1
  · by_cases e : i = k
    · subst e
      rw [getD_set_self M i _ (by omega)]
      exact keep hu
    · rw [getD_set_ne M k i _ e]
      exact keep (h.idx i (by omega))
  · intro b
    by_cases e : j = k
    · subst e
      rw [getD_set_self M j _ (by omega), getD_set_ne M j i _ (by omega)]
      intro h1 h2
      exact hnew i (by omega) b h2 h1
    · rw [getD_set_ne M k i _ (by omega), getD_set_ne M k j _ e]
      exact h.apart i j hij (by omega) b

set_option maxRecDepth 100000 in
set_option maxHeartbeats 4000000 in
theorem copyLog_any (a : Option Addr) (L : List Pc) (n cap : Nat) (B : Int) (w : World) (hn : L.length = n) (h1 : 1 ≤ n) (h20 : n ≤ 20) (hs : SlC w a L) (hX : ∀ i, i < n → (gc L i).x.length ≤ 60) :
    Calls Tryd.prog 35 #[.agg #[.slice a n cap, .int .i64 B]] w fun e w' => ∃ g M, e = .returned (.agg #[.slice (some ⟨g, 0, none⟩) n n, .int .i64 B]) ∧ pcs M = L ∧ OwC w' w.heap.size (.slice (some ⟨g, 0, none⟩) n n) n M ∧ Below w.heap.size w w' := by
  obtain ⟨i0, hi, hz0, hz1, hz2⟩ := info_parts info_piece
  obtain ⟨b, off, rfl, _⟩ := hs 0 (by omega)
  obtain ⟨W, hW⟩ : ∃ W, W = (w.alloc (.cells #[.slice (some ⟨b, off, none⟩) n cap, .int .i64 B] 25 (0, 0))).alloc (.cells #[.slice none 0 0, .int .i64 0] 25 (0, 0)) := ⟨_, rfl⟩
  have hWs : W.heap.size = w.heap.size + 2 := by rw [hW]; simp
  have hbW : Below w.heap.size w W := by rw [hW]; exact ((Below.refl _ _).alloc (Nat.le_refl _) _).alloc (by simp) _
  obtain ⟨w1, hmk, hown1, hg1⟩ := run_make_full (P := Tryd.prog) W W.heap.size 23 50 i0 (.agg #[.int .i64 0, .string ByteArray.empty, .slice none 0 0]) 3 Tryd.underlying23 hi hz0 hz1 .i64 .i64 n (by rw [hz2]; omega) (by unfold maxLen; omega) (Nat.le_refl _)
  have hb1 : Below W.heap.size W w1 := (Below.refl _ _).grown hg1 (Nat.le_refl _) (fun k hk => by cases hk)
  obtain ⟨M0, hM0, hM1, hM2⟩ := slC_vals hs
  have hM0l : M0.length = n := by rw [← hn, ← hM0]; simp
  have hbw1 : Below w.heap.size w w1 := hbW.trans (hb1.mono (by omega))
  have G0 : W.heap[w.heap.size]? = some (.cells #[.slice (some ⟨b, off, none⟩) n cap, .int .i64 B] 25 (0, 0)) ∧ W.heap[w.heap.size + 1]? = some (.cells #[.slice none 0 0, .int .i64 0] 25 (0, 0)) := by
    rw [hW]
    have e2 := blk_new (w.alloc (.cells #[.slice (some ⟨b, off, none⟩) n cap, .int .i64 B] 25 (0, 0))) (.cells #[.slice none 0 0, .int .i64 0] 25 (0, 0))
    rw [World.size_alloc] at e2
    exact ⟨(((Below.refl (w.alloc (.cells #[.slice (some ⟨b, off, none⟩) n cap, .int .i64 B] 25 (0, 0))).heap.size _).alloc (Nat.le_refl _) _).block w.heap.size (by simp)).trans (blk_new _ _), e2⟩
  obtain ⟨k0, k1, _, _⟩ := blkp ((hb1.block w.heap.size (by omega)).trans G0.1)
  have HG1 := hide ((hb1.block (w.heap.size + 1) (by omega)).trans G0.2)
  have hsrc : ∀ j v, (flatC M0)[j]? = some v → w1.cell? ((⟨b, off, none⟩ : Addr).add j) = some v := fun j v hv => by
    obtain ⟨b', off', he, hc⟩ := hM2 j v hv
    cases he
    rw [add_at6]
    exact (hbw1.cell (p := ⟨b, off + j, none⟩) (blk_lt hc)).trans hc
  have hone : ∀ v ∈ flatC M0, v.oneCell' = true := flatC_one M0 (fun q hq => by
    obtain ⟨i, hi, rfl⟩ := List.getElem_of_mem hq
    obtain ⟨ai, ci, e, _⟩ := hM1 i (by omega)
    rw [show M0[i] = M0.getD i eV by simp [List.getD, List.getElem?_eq_getElem hi], e]
    rfl)
  have HSRC := hide hsrc
  have HONE := hide hone
  have HM0 := hide hM0
  have HM1 := hide hM1
  have HML := hide hM0l
  have HX := hide hX
  have HN := hide hn
  have HBW1 := hide hbw1
  rw [hWs] at hmk hown1
  have HO1 := hide hown1
  have hsz1 : w.heap.size + 2 ≤ w1.heap.size := by have := hb1.size; omega
  have hinf : (Tryd.prog.info? 50).map (·.size) = some 3 := by rw [hi]; simp [hz1]
  obtain ⟨w2, hcp, ho2, hg2⟩ := run_copy_all Tryd.prog w1 23 23 3 50 3 Tryd.underlying23 hinf (w.heap.size + 2) (w.heap.size + 2) n ⟨b, off, none⟩ cap _ HO1.out (flatC M0) (by rw [flatC_len, HML.out]) HSRC.out HONE.out
  have k0' := grown_cell hg2 ⟨w.heap.size, 0, none⟩ k0 (by simp)
  have k1' := grown_cell hg2 ⟨w.heap.size, 1, none⟩ k1 (by simp)
  have HR0 : Hid (w2.heap[w.heap.size + 1]? = some (.cells #[.slice none 0 0, .int .i64 0] 25 (0, 0))) := (hg2.block (w.heap.size + 1) (by omega) (by simp)).trans HG1.out
  have HK0 : Hid (OwK w2 (w.heap.size + 2) (.slice (some ⟨w.heap.size + 2, 0, none⟩) n n) n 0 M0) := ⟨HML.out, ho2, fun i hi => absurd hi (Nat.not_lt_zero _), fun i j _ hj => absurd hj (Nat.not_lt_zero _)⟩
  have HB2 : Hid (Below w.heap.size w w2) := HBW1.out.grown hg2 (by omega) (fun q hq => by cases hq; omega)
  subst hW
  clear ho2 hg2
  clear hs hn hX hM0 hM1 hM2 hM0l hsrc hone hown1 hg1 hb1 hbw1 hbW hWs G0
  go_enter Tryd.func35, Tryd.ntmps35
  go_wp2
  go_loopw [16] (fun i wr => ∃ (k : Nat) (N : List PV), k ≤ n ∧ i = .int .i64 k ∧ Hid (OwK wr (w.heap.size + 2) (.slice (some ⟨w.heap.size + 2, 0, none⟩) n n) n k N) ∧ Hid (∀ t, k ≤ t → t < n → N.getD t eV = M0.getD t eV) ∧ Hid (pcs N = L) ∧ wr.cell? ⟨w.heap.size, 1, none⟩ = some (.int .i64 B) ∧ Hid (wr.heap[w.heap.size + 1]? = some (.cells #[.slice none 0 0, .int .i64 0] 25 (0, 0))) ∧ Below w.heap.size w wr) (fun i _ => n - (intOf i).toNat)
  case atStart => exact ⟨0, M0, Nat.zero_le _, rfl, HK0.out, fun _ _ _ => rfl, HM0.out, k1', HR0.out, HB2.out⟩
  case round =>
    obtain ⟨k, N, hk, rfl, HK, HT2, HP, kB, HR, hbel⟩ := hrel
    by_cases hlt : k < n
    · have hltI : (k : Int) < (n : Int) := by omega
      have hNk := HT2.out k (Nat.le_refl _) hlt
      obtain ⟨ai, ci, hv, hsl⟩ := HM1.out k (by rw [HN.out]; exact hlt)
      have hNl := HK.out.len
      have hp1 : (N.getD k eV).1 = gc L k := by
        have := pcs_get N k (by omega)
        rw [HP.out] at this
        exact this.symm
      obtain ⟨f1, f2, f3⟩ := flatC_get N k (by omega)
      rw [hp1] at f1 f2
      rw [hNk, hv] at f3
      have hfl : (flatC N).length = n * 3 := by rw [flatC_len, hNl]
      have c1 := (HK.out.row.cellAt (k * 3) (by omega)).trans f1
      have c2 := (HK.out.row.cellAt (k * 3 + 1) (by omega)).trans f2
      have c3 := (HK.out.row.cellAt (k * 3 + 2) (by omega)).trans f3
      have hxl := HX.out k hlt
      have hsl2 := hsl.below hbel
      obtain ⟨p, hp⟩ : ∃ p, p = gc L k := ⟨_, rfl⟩
      rw [← hp] at c1 c2 c3 hsl2 hxl hp1
      obtain ⟨f, s, x⟩ := p
      simp only at c1 c2 c3 hsl2 hxl
      obtain ⟨m, hm⟩ : ∃ m, m = x.length := ⟨_, rfl⟩
      rw [← hm] at c3 hxl
      have hrz : w.heap.size + 2 ≤ wr.heap.size := by have := (own_ltC HK.out.row (w.heap.size + 2) rfl).2; omega
      have HSL := hide hsl2
      have HMX := hide hm
      have HP1 := hide hp1
      have BB := hide hbel
      clear hNk hv hsl f1 f2 f3 hp hm hsl2 hp1 hfl hbel
      go_wp2_with (first
        | (at_builtin; refine wpList_append_copy rfl _ _ rfl (w.heap.size + 2) none ai 0 m ci x HMX.out.symm (by omega) rfl (World.ownsRow_nil _ _ _ _) rfl (HSL.out.below ((Below.refl _ _).alloc (Nat.le_refl _) _)) (by simp; omega) ?_)
        | go_in)
      intro a' c' w6 h6 g6 hat6
      have hal := (Below.refl wr.heap.size wr).alloc (Nat.le_refl _) (.cells #[.int .i64 f, .string s, .slice ai m ci] 50 (0, 0))
      have g7 : wr.grownBy w6 none := ⟨g6.os.trans hal.os, g6.tape.trans hal.tape, g6.output.trans hal.output, Nat.le_trans hal.size g6.size, fun q hq hne => (g6.block q (by simp; omega) (by simp [Value.ownBlock])).trans (hal.block q hq)⟩
      have K6 := HK.out.grown g7
      have kB6 := grown_cell g7 ⟨w.heap.size, 1, none⟩ kB (by simp)
      have HR6 : Hid (w6.heap[w.heap.size + 1]? = some (.cells #[.slice none 0 0, .int .i64 0] 25 (0, 0))) := (g7.block (w.heap.size + 1) (by omega) (by simp)).trans HR.out
      have B6 := BB.out.grown g7 (Nat.le_trans BB.out.size (Nat.le_refl _)) (fun q hq => by cases hq)
      have hcl := K6.row.cellAt (k * 3 + 2) (by omega)
      have hfr := K6.row.frozenAt (k * 3 + 2)
      have hfl6 : (flatC N).length = n * 3 := by rw [flatC_len, HK.out.len]
      obtain ⟨u2, hu2⟩ : ∃ v, w6.cell? ⟨w.heap.size + 2, k * 3 + 2, none⟩ = some v := ⟨_, hcl.trans (List.getElem?_eq_getElem (by omega))⟩
      have P := K6.step hlt (.slice a' m c') (by rw [HP1.out]; show w6.ownsRow _ _ _ _ x.length _; rw [← HMX.out]; exact h6) (fun q hq b hb e => by
        have h1 := (own_ltC (HK.out.idx q hq) b e).2
        rcases hat6 with h | h
        · rw [h] at hb; simp [Value.ownBlock] at hb
        · rw [h] at hb; simp at hb; omega)
      have R : ∃ (k' : Nat) (N' : List PV), k' ≤ n ∧ Value.int .i64 ((k : Int) + 1) = .int .i64 k' ∧ Hid (OwK (w6.setCell ⟨w.heap.size + 2, k * 3 + 2, none⟩ (.slice a' m c')) (w.heap.size + 2) (.slice (some ⟨w.heap.size + 2, 0, none⟩) n n) n k' N') ∧ Hid (∀ t, k' ≤ t → t < n → N'.getD t eV = M0.getD t eV) ∧ Hid (pcs N' = L) ∧ (w6.setCell ⟨w.heap.size + 2, k * 3 + 2, none⟩ (.slice a' m c')).cell? ⟨w.heap.size, 1, none⟩ = some (.int .i64 B) ∧ Hid ((w6.setCell ⟨w.heap.size + 2, k * 3 + 2, none⟩ (.slice a' m c')).heap[w.heap.size + 1]? = some (.cells #[.slice none 0 0, .int .i64 0] 25 (0, 0))) ∧ Below w.heap.size w (w6.setCell ⟨w.heap.size + 2, k * 3 + 2, none⟩ (.slice a' m c')) := by
        refine ⟨k + 1, _, by omega, by simp, P.1, fun t h1 h2 => ?_, ?_, grown_cell P.2 ⟨w.heap.size, 1, none⟩ kB6 (by simp), (P.2.block (w.heap.size + 1) (by have := g7.size; omega) (by simp)).trans HR6.out, B6.grown P.2 (by have := g7.size; omega) (fun q hq => by cases hq; omega)⟩
        · rw [getD_set_ne N k t _ (by omega)]
          exact HT2.out t (by omega) h2
        · show pcs (N.set k _) = L
          rw [← HP.out]
          apply List.ext_getElem?
          intro j
          by_cases e : j = k
          · subst e
            have hj : j < N.length := by rw [HK.out.len]; exact hlt
            rw [List.getElem?_map, List.getElem?_map, List.getElem?_set_self hj, List.getElem?_eq_getElem hj]
            simp [List.getD, List.getElem?_eq_getElem hj]
          · rw [List.getElem?_map, List.getElem?_map, List.getElem?_set_ne (by omega)]
      have HRR := hide R
      clear R P K6 hcl hfl6 h6 g6 g7 hal B6 hat6 kB6 HR6
      go_wp2
      go_roundw
      case rel => exact HRR.out
      case measure => simp [intOf]; omega
    · obtain rfl : k = n := by omega
      have hltI : ¬ (k : Int) < (k : Int) := by omega
      obtain ⟨z0, z1, z2, z3⟩ := blkp HR.out
      have BB := hide hbel
      clear hbel
      go_wp2
      refine bodyPost_ret (v := .agg #[.slice (some ⟨w.heap.size + 2, 0, none⟩) k k, .int .i64 B]) (by simp [results, Tryd.f35, go_sem, z0, z1]) rfl ⟨_, rfl, N, HP.out, ?_, ?_⟩
      · have z : w.heap.size + 1 < w.heap.size + 2 := by omega
        exact (((HK.out.all).setC ⟨_, _, none⟩ _ z).setC ⟨_, _, none⟩ _ z).base (by omega)
      · exact (BB.out.setCell (p := ⟨_, _, none⟩) (by show w.heap.size ≤ w.heap.size + 1; omega) _).setCell (p := ⟨_, _, none⟩) (by show w.heap.size ≤ w.heap.size + 1; omega) _
end Go.Proofs.YtbcljhafdpnjbabDoor.L6

namespace Go.Proofs.YtbcljhafdpnjbabDoor.L6
open Go.RowKit L1
set_option linter.unusedVariables false

/-- A piece cut at an offset. -/
def cutP (p : Pc) (o : Int) : Pc := ⟨p.f, p.s.extract 0 (pl p.s 0 (o - p.f).toNat), ix (p.s.extract 0 (pl p.s 0 (o - p.f).toNat))⟩
/-- The piece that is cut. -/
def cutK (L : List Pc) (o : Int) : Nat := pcAt L (o - 1) (L.length - 1)
def cutL (L : List Pc) (o : Int) : List Pc := L.take (cutK L o) ++ [cutP (gc L (cutK L o)) o]
theorem cutK_lt {L : List Pc} {o : Int} (h : 1 ≤ L.length) : cutK L o < L.length := by
  have := pcAt_le L (o - 1) (L.length - 1)
  unfold cutK
  omega
theorem cutL_len {L : List Pc} {o : Int} (h : 1 ≤ L.length) : (cutL L o).length = cutK L o + 1 := by
  have := cutK_lt (o := o) h
  unfold cutL
  simp
  omega
/-- Where a good log is cut within it, so many records of the piece stay. -/
theorem cut_spot {L : List Pc} {B o : Int} (h : GoodG L B) (h1 : B ≤ o) (h2 : o ≤ endg L) : (gc L (cutK L o)).f ≤ o ∧ o ≤ (gc L (cutK L o)).f + (cnt (gc L (cutK L o)).s : Int) := by
  have hone := h.one
  have hK := cutK_lt (o := o) hone
  have hf : (gc L (cutK L o)).f = atg L (cutK L o) := (h.ps (cutK L o) hK).2.1
  refine ⟨?_, ?_⟩
  · rcases pcAt_at L (o - 1) (L.length - 1) with e | e
    · have e' : cutK L o = 0 := e
      rw [e']
      have := h.b0
      omega
    · have e' : (gc L (cutK L o)).f ≤ o - 1 := e
      omega
  · by_cases e : cutK L o = L.length - 1
    · have := end_last hone h.ps
      rw [e]
      omega
    · have hn := pcAt_next L (o - 1) (L.length - 1) (cutK L o + 1) (by show cutK L o < _; omega) (by omega)
      have hf2 : (gc L (cutK L o + 1)).f = atg L (cutK L o + 1) := (h.ps (cutK L o + 1) (by omega)).2.1
      have hs : atg L (cutK L o + 1) = (gc L (cutK L o)).f + (cnt (gc L (cutK L o)).s : Int) := by
        show atg L (cutK L o + 1) = _
        rw [hf]
        rfl
      omega
/-- A piece ahead of the cut is whole there. -/
theorem cut_ahead {L : List Pc} {B o : Int} (h : GoodG L B) (i : Nat) (hi : i < cutK L o) : (gc L i).f < o ∧ (gc L i).f + (cnt (gc L i).s : Int) < o := by
  have hone := h.one
  have hK := cutK_lt (o := o) hone
  have hf : (gc L (cutK L o)).f = atg L (cutK L o) := (h.ps (cutK L o) hK).2.1
  have hfi : (gc L i).f = atg L i := (h.ps i (by omega)).2.1
  have hs : atg L (i + 1) = (gc L i).f + (cnt (gc L i).s : Int) := by rw [hfi]; rfl
  have hm := atg_mono2 L (show i + 1 ≤ cutK L o by omega)
  rcases pcAt_at L (o - 1) (L.length - 1) with e | e
  · have e' : cutK L o = 0 := e
    omega
  · have e' : (gc L (cutK L o)).f ≤ o - 1 := e
    omega
theorem cut_behind {L : List Pc} {B o : Int} (h : GoodG L B) (i : Nat) (hi : cutK L o < i) (hl : i < L.length) : o ≤ (gc L i).f := by
  have := pcAt_next L (o - 1) (L.length - 1) i hi (by omega)
  omega
/-- What CutFrom answers. -/
def CutOk (L : List Pc) (B o : Int) : Prop := GoodG L B ∧ B ≤ o ∧ o ≤ endg L
structure CutIs (L : List Pc) (B o : Int) (L' : List Pc) (B' : Int) (ok : Bool) : Prop where
  yes : CutOk L B o → L' = cutL L o ∧ B' = B ∧ ok = true
  no : ¬ CutOk L B o → L' = [] ∧ B' = 0 ∧ ok = false
open Classical in
theorem cut_is (L : List Pc) (B o : Int) : ∃ L' B' ok, CutIs L B o L' B' ok := by
  by_cases h : CutOk L B o
  · exact ⟨_, _, _, fun _ => ⟨rfl, rfl, rfl⟩, fun h' => absurd h h'⟩
  · exact ⟨_, _, _, fun h' => absurd h' h, fun _ => ⟨rfl, rfl, rfl⟩⟩
theorem cutP_few {p : Pc} {o : Int} (h : GoodP p) : (cutP p o).x.length ≤ 60 := by
  unfold cutP
  simp only
  have h1 := cnt_le (p.s.extract 0 (pl p.s 0 (o - p.f).toNat))
  have h2 : (p.s.extract 0 (pl p.s 0 (o - p.f).toNat)).size ≤ 60 := by simp; have := h.1; omega
  unfold ix
  rw [ixk_len]
  omega
theorem CutIs.few {L L' : List Pc} {B o B' : Int} {ok : Bool} (h : CutIs L B o L' B' ok) : L'.length ≤ 20 ∧ ∀ i, i < L'.length → (gc L' i).x.length ≤ 60 := by
  by_cases hc : CutOk L B o
  · obtain ⟨rfl, _, _⟩ := h.yes hc
    have hone := hc.1.one
    have hmany := hc.1.many
    have hK := cutK_lt (o := o) hone
    refine ⟨by rw [cutL_len hone]; omega, fun i hi => ?_⟩
    rw [cutL_len hone] at hi
    by_cases e : i < cutK L o
    · rw [show gc (cutL L o) i = gc L i by unfold cutL; simp [gc, List.getD, List.getElem?_append_left (show i < (L.take (cutK L o)).length by simp; omega), e]]
      have hg := (hc.1.ps i (by omega)).1
      rw [hg.2.2]
      unfold ix
      rw [ixk_len]
      have := good_cnt hg
      omega
    · obtain rfl : i = cutK L o := by omega
      rw [show gc (cutL L o) (cutK L o) = cutP (gc L (cutK L o)) o by unfold cutL; simp [gc, List.getD, Nat.min_eq_left (Nat.le_of_lt hK)]]
      exact cutP_few (hc.1.ps _ hK).1
  · obtain ⟨rfl, _, _⟩ := h.no hc
    exact ⟨by simp, fun i hi => by simp at hi⟩
end Go.Proofs.YtbcljhafdpnjbabDoor.L6

namespace Go.Proofs.YtbcljhafdpnjbabDoor.L6
open Go.RowKit L1
set_option linter.unusedVariables false

theorem elem_pc : Tryd.prog.elem 23 = 50 := by kernel_rfl
theorem size_pc : (Tryd.prog.info? 50).map (·.size) = some 3 := by kernel_rfl
theorem run_size_pc (w : World) : (sizeOf (Tryd.prog.elem 23)).run Tryd.prog w = .ok 3 w := by
  rw [elem_pc]
  cases hq : Tryd.prog.info? 50 with
  | none => have := size_pc; rw [hq] at this; cases this
  | some i =>
    have hi : i.size = 3 := by have := size_pc; rw [hq] at this; simpa using this
    simp [sizeOf, typeInfo, hq, hi]
theorem slice_toC (g n p : Nat) (hp : p ≤ n) : ∀ w, (Instr.slice 23 (.slice (some ⟨g, 0, none⟩) n n) none (some (.int .i64 (p : Int))) none).run Tryd.prog w = .ok (.slice (some ⟨g, 0, none⟩) p n) w := fun w => by
  rw [run_slice_h w 23 _ n n (by rw [elem_pc]; exact Tryd.underlying23) .i64 (p : Int) (by omega) (by omega), run_size_pc]
  simp [sliced, Addr.add]
theorem slice_fromC (g n p : Nat) (hp : p < n) : ∀ w, (Instr.slice 23 (.slice (some ⟨g, 0, none⟩) n n) (some (.int .i64 (p : Int))) none none).run Tryd.prog w = .ok (.slice (some ⟨g, p * 3, none⟩) (n - p) (n - p)) w := fun w => by
  rw [run_slice_l w 23 _ n n (by rw [elem_pc]; exact Tryd.underlying23) .i64 (p : Int) (by omega) (by omega), run_size_pc]
  have h1 : ¬ n = p := by omega
  simp [sliced, h1, Addr.add]
  try (intro h; omega)
theorem slice_endC (g n : Nat) : ∃ a' c', ∀ w, (Instr.slice 23 (.slice (some ⟨g, 0, none⟩) n n) (some (.int .i64 (n : Int))) none none).run Tryd.prog w = .ok (.slice a' 0 c') w := by
  refine ⟨some ⟨g, 0, none⟩, 0, fun w => ?_⟩
  rw [run_slice_l w 23 _ n n (by rw [elem_pc]; exact Tryd.underlying23) .i64 (n : Int) (by omega) (by omega), run_size_pc]
  simp [sliced]
theorem clear_none (a' : Option Addr) (c' : Nat) (ty : TypeId) : ∀ w, (Builtin.clear_ #[23] ty #[.slice a' 0 c']).run Tryd.prog w = .ok (.tuple #[]) w := fun w => by
  cases a' <;> simp [Builtin.clear_, run_underlying Tryd.underlying23]
theorem zero_pc (w : World) : (zeroValue 50).run Tryd.prog w = .ok (.agg #[.int .i64 0, .string ByteArray.empty, .slice none 0 0]) w := by
  obtain ⟨i0, hi, hz0, hz1, hz2⟩ := info_parts info_piece
  simp [zeroValue, typeInfo, hi, hz0]
theorem zeros_len (z : Value) (k : Nat) (hz : z.cells.size = k) (n : Nat) : (Builtin.zeroCells z.cells n).toList.length = n * k := by simp [Builtin.zeroCells, hz]
theorem zeros_one (n : Nat) : ∀ v ∈ (Builtin.zeroCells (Value.agg #[.int .i64 0, .string ByteArray.empty, .slice none 0 0]).cells n).toList, v.oneCell' = true := by
  intro v hv
  simp only [Builtin.zeroCells, Value.cells, Array.toList_map, List.mem_map] at hv
  obtain ⟨i, _, rfl⟩ := hv
  have h3 : (#[Value.int .i64 0, .string ByteArray.empty, .slice none 0 0] : Array Value).size = 3 := rfl
  have hm : i % 3 = 0 ∨ i % 3 = 1 ∨ i % 3 = 2 := by omega
  rcases hm with e | e | e <;> simp [e] <;> rfl
/-- The pieces behind a place are cleared: those ahead of it are a row of their own. -/
theorem clear_short {w : World} {base g n p : Nat} {xs : List Value} (hp : p < n) (h : w.ownsRow base 50 3 (.slice (some ⟨g, 0, none⟩) n n) n xs) (ty : TypeId) :
    ∃ w', (Builtin.clear_ #[23] ty #[.slice (some ⟨g, p * 3, none⟩) (n - p) (n - p)]).run Tryd.prog w = .ok (.tuple #[]) w' ∧ w'.ownsRow base 50 3 (.slice (some ⟨g, 0, none⟩) p n) p (xs.take (p * 3)) ∧ w.grownBy w' (some g) := by
  obtain ⟨hl, h2⟩ := h
  rcases h2 with ⟨hv, _⟩ | ⟨g', cap', cur, hv, hbg, hg, hc1, hc2, hc3, hc4⟩
  · cases hv
  · simp at hv
    obtain ⟨rfl, rfl⟩ := hv
    obtain ⟨cs, hcs⟩ : ∃ cs, cs = (Builtin.zeroCells (Value.agg #[.int .i64 0, .string ByteArray.empty, .slice none 0 0]).cells (n - p)).toList := ⟨_, rfl⟩
    have hlen : cs.length = (n - p) * 3 := by rw [hcs]; exact zeros_len _ 3 rfl _
    have hst := run_storeCells_at Tryd.prog g (p * 3) 50 cs 0 cur w hg (by omega) (by rw [hcs]; exact zeros_one _)
    simp only [Nat.add_zero] at hst
    refine ⟨w.setRow g (cur.toList.take (p * 3) ++ cs ++ cur.toList.drop (p * 3 + cs.length)).toArray, ?_, ⟨by rw [List.length_take, hl]; omega, .inr ⟨g, n, (cur.toList.take (p * 3) ++ cs ++ cur.toList.drop (p * 3 + cs.length)).toArray, rfl, hbg, setRow_heap w g cur _ 50 _ hg, Nat.le_of_lt hp, hc2, ?_, ?_⟩⟩, ⟨rfl, rfl, rfl, by simp [World.setRow], fun q hq hne => setRow_other w g q _ (fun e => hne (by rw [e]))⟩⟩
    · obtain ⟨m, hm⟩ : ∃ m, n - p = m + 1 := ⟨n - p - 1, by omega⟩
      rw [hm] at hcs ⊢
      simp only [Builtin.clear_, run_underlying Tryd.underlying23, Sem.run_bind, Result.andThen_ok, zero_pc, List.getElem?_toArray, List.getElem?_cons_zero, ← hcs, hst]
      rfl
    · simp
      omega
    · simp only
      rw [List.append_assoc, List.take_append_of_le_length (by simp; omega), ← hc4, List.take_take, List.take_take]
      simp
      first | rfl | omega | (congr 1; omega)
theorem flatC_take : ∀ (M : List PV) (k : Nat), (flatC M).take (k * 3) = flatC (M.take k)
  | [], k => by simp [flatC]
  | p :: M, 0 => by simp [flatC]
  | p :: M, k + 1 => by
    have ih := flatC_take M k
    rw [show (k + 1) * 3 = k * 3 + 1 + 1 + 1 by omega]
    simp only [flatC, List.take_succ_cons, ih]
theorem take_getD (M : List PV) (k i : Nat) (h : i < k) : (M.take k).getD i eV = M.getD i eV := by simp [List.getD, h]
/-- The first pieces of a log that is a call's own. -/
theorem OwC.short {w w' : World} {base g n cap p : Nat} {M : List PV} (h : OwC w base (.slice (some ⟨g, 0, none⟩) n cap) n M) (hp : p ≤ n) (hr : w'.ownsRow base 50 3 (.slice (some ⟨g, 0, none⟩) p cap) p (flatC (M.take p))) (hg : w.grownBy w' (some g)) : OwC w' base (.slice (some ⟨g, 0, none⟩) p cap) p (M.take p) := by
  refine ⟨by rw [List.length_take, h.len]; omega, hr, fun i hi => ?_, fun i j hij hj => ?_⟩
  · rw [take_getD M p i hi]
    exact own_keptC (h.idx i (by omega)) hg (fun b hb e => by
      simp at e
      subst e
      exact own_two h.row (h.idx i (by omega)) int_piece g rfl hb)
  · rw [take_getD M p i (by omega), take_getD M p j hj]
    exact h.apart i j hij (by omega)

set_option maxRecDepth 100000 in
set_option maxHeartbeats 1000000 in
theorem shorten_any (base g n p : Nat) (M : List PV) (w : World) (hp : p ≤ n) (hn : n ≤ 1048576) (ho : OwC w base (.slice (some ⟨g, 0, none⟩) n n) n M) :
    Calls Tryd.prog 50 #[.slice (some ⟨g, 0, none⟩) n n, .int .i64 (p : Int)] w fun e w' => e = .returned (.slice (some ⟨g, 0, none⟩) p n) ∧ OwC w' base (.slice (some ⟨g, 0, none⟩) p n) p (M.take p) ∧ w.grownBy w' (some g) := by
  have hto := slice_toC g n p hp
  by_cases hpn : p < n
  · have hfr := slice_fromC g n p hpn
    obtain ⟨w', hclr, hown, hgr⟩ := clear_short hpn ho.row 0
    rw [flatC_take] at hown
    have R := hide (And.intro (ho.short hp hown hgr) hgr)
    have hle : (p : Int) ≤ (n : Int) := by omega
    clear ho hown hgr
    go_enter Tryd.func50, Tryd.ntmps50
    go_wp2
    go_ret
    exact ⟨rfl, R.out⟩
  · obtain rfl : p = n := by omega
    obtain ⟨a', c', hfr⟩ := slice_endC g p
    have hclr := clear_none a' c' 0
    have R := hide (show OwC w base (.slice (some ⟨g, 0, none⟩) p p) p (M.take p) ∧ w.grownBy w (some g) from ⟨by rw [List.take_of_length_le (by rw [ho.len]; exact Nat.le_refl _)]; exact ho, World.grownBy.refl _ _⟩)
    clear ho hpn
    go_enter Tryd.func50, Tryd.ntmps50
    go_wp2
    go_ret
    exact ⟨rfl, R.out⟩
end Go.Proofs.YtbcljhafdpnjbabDoor.L6

namespace Go.Proofs.YtbcljhafdpnjbabDoor.L6
open Go.RowKit L1
set_option linter.unusedVariables false

set_option maxRecDepth 100000 in
set_option maxHeartbeats 1000000 in
theorem equal_any (a b : Option Addr) (xs ys : List Int) (n m c1 c2 : Nat) (w : World) (hn : xs.length = n) (hm : ys.length = m) (ha : Sl w a xs) (hb : Sl w b ys) (hn2 : n ≤ 9223372036854775807) (hm2 : m ≤ 9223372036854775807) (bb : Bool) (hbb : bb = true ↔ xs = ys) :
    Calls Tryd.prog 78 #[.slice a n c1, .slice b m c2] w fun e w' => e = .returned (.bool bb) ∧ Below w.heap.size w w' := by
  have HA := hide ha
  have HB := hide hb
  have HN := hide hn
  have HM := hide hm
  have HBB := hide hbb
  clear ha hb hn hm hbb
  by_cases hnm : n = m
  · subst hnm
    go_enter Tryd.func78, Tryd.ntmps78
    go_wp2
    go_loopw [13] (fun i wr => ∃ k : Nat, k ≤ n ∧ i = .int .i64 k ∧ Hid (∀ j, j < k → xs.getD j 0 = ys.getD j 0) ∧ Below w.heap.size w wr) (fun i _ => n - (intOf i).toNat)
    case atStart => exact ⟨0, Nat.zero_le _, rfl, fun j hj => absurd hj (Nat.not_lt_zero _), Below.refl _ _⟩
    case round =>
      obtain ⟨k, hk, rfl, HK, hbel⟩ := hrel
      by_cases hlt : k < n
      · obtain ⟨b1, o1, rfl, h1⟩ := HA.out k (by rw [HN.out]; exact hlt)
        obtain ⟨b2, o2, rfl, h2⟩ := HB.out k (by rw [HM.out]; exact hlt)
        have g1 := (hbel.cell (p := ⟨b1, o1 + k, none⟩) (blk_lt h1)).trans h1
        have g2 := (hbel.cell (p := ⟨b2, o2 + k, none⟩) (blk_lt h2)).trans h2
        obtain ⟨x, hx⟩ : ∃ x, x = xs.getD k 0 := ⟨_, rfl⟩
        obtain ⟨y, hy⟩ : ∃ y, y = ys.getD k 0 := ⟨_, rfl⟩
        rw [← hx] at g1
        rw [← hy] at g2
        have hltI : (k : Int) < (n : Int) := by omega
        clear h1 h2
        by_cases hxy : x = y
        · have HK2 : Hid (∀ j, j < k + 1 → xs.getD j 0 = ys.getD j 0) := fun j hj => by
            by_cases e : j = k
            · subst e; rw [← hx, ← hy, hxy]
            · exact HK.out j (by omega)
          clear hx hy
          subst hxy
          go_wp2
          go_quiet (fail)
          go_wp2
          go_roundw
          case rel => exact ⟨k + 1, by omega, by go_num, HK2.out, below_drewN hbel _⟩
          case measure => simp [intOf]; omega
        · have hE : bb = false := by
            cases bb with
            | false => rfl
            | true =>
              have := HBB.out.1 rfl
              exact absurd (by rw [hx, hy, this]) hxy
          subst hE
          clear hx hy
          go_wp2
          go_quiet (fail)
          go_wp2
          go_ret
          exact ⟨rfl, below_drewN hbel _⟩
      · obtain rfl : k = n := by omega
        have hltI : ¬ (k : Int) < (k : Int) := by omega
        have hE : bb = true := HBB.out.2 (list_same HM.out HN.out (fun j hj => HK.out j hj))
        subst hE
        go_wp2
        go_ret
        exact ⟨rfl, hbel⟩
  · have hE : bb = false := by
      cases bb with
      | false => rfl
      | true =>
        have := HBB.out.1 rfl
        have h1 := HN.out
        rw [this, HM.out] at h1
        exact absurd h1.symm hnm
    subst hE
    have hI : ¬ (n : Int) = (m : Int) := by omega
    go_enter Tryd.func78, Tryd.ntmps78
    go_wp2
    go_ret
    exact ⟨rfl, Below.refl _ _⟩

theorem extract_ne (s : ByteArray) (k : Nat) (h : k < s.size) : s.extract 0 k ≠ s := fun e => by
  have := congrArg ByteArray.size e
  simp at this
  omega

set_option maxRecDepth 100000 in
set_option maxHeartbeats 1000000 in
theorem goodPiece_any (f : Int) (s : ByteArray) (a : Option Addr) (xs : List Int) (n q : Nat) (w : World) (hn : xs.length = n) (ha : Sl w a xs) (hn2 : n ≤ 9223372036854775807) (hs : s.size ≤ 9223372036854775807) (ht : Tab w) (bb : Bool) (hbb : bb = true ↔ GoodP ⟨f, s, xs⟩) :
    Calls Tryd.prog 68 #[.agg #[.int .i64 f, .string s, .slice a n q]] w fun e w' => e = .returned (.bool bb) ∧ Below w.heap.size w w' := by
  by_cases h60 : (60 : Int) < (s.size : Int)
  · have hE : bb = false := by
      cases bb with
      | false => rfl
      | true =>
        have := (hbb.1 rfl).1
        simp only at this
        omega
    subst hE
    clear hbb ha hn ht
    go_enter Tryd.func68, Tryd.ntmps68
    go_wp2
    go_ret
    exact ⟨rfl, (Below.refl _ _).alloc (Nat.le_refl _) _⟩
  · have C1 := hide (fun w ht => wholePiece_any f s w (by omega) ht)
    have hw := wh_le s
    have HT := hide ht
    have HA := hide ha
    obtain ⟨y, hy⟩ : ∃ y, y = s.extract 0 (wh s) := ⟨_, rfl⟩
    rw [← hy] at C1
    obtain ⟨l, hl⟩ : ∃ l, l = ix s := ⟨_, rfl⟩
    rw [← hl] at C1
    obtain ⟨m, hm⟩ : ∃ m, m = l.length := ⟨_, rfl⟩
    have hm2 : m ≤ 1048576 := by
      rw [hm, hl]
      unfold ix
      rw [ixk_len]
      have := cnt_le s
      omega
    rw [← hm] at C1
    have C2 := hide (fun a1 b1 c1 w h1 h2 bb hbb => equal_any a1 b1 l xs m n c1 q w hm.symm hn h1 h2 (by omega) hn2 bb hbb)
    by_cases hws : wh s = s.size
    · have hys : y = s := by rw [hy, hws]; exact extract_all s
      have hbb2 : bb = true ↔ l = xs := by
        rw [hbb, hl]
        constructor
        · exact fun h => h.2.2.symm
        · exact fun h => ⟨by simp only; omega, hws, h.symm⟩
      have HBB := hide hbb2
      clear hbb hbb2 hy ht ha hn hl hm hws
      subst hys
      go_enter Tryd.func68, Tryd.ntmps68
      go_wp2_with fail
      refine (C1.out _ (HT.out.below ((Below.refl _ _).alloc (Nat.le_refl _) _))).mono ?_
      rintro e w1 ⟨v1, rfl, ho1, hb1⟩
      obtain ⟨a1, q1, rfl, s1, _⟩ := own_form ho1
      have G1 : w1.heap[w.heap.size]? = some (.cells #[.int .i64 f, .string y, .slice a n q] 50 (0, 0)) := (hb1.block w.heap.size (by simp)).trans (blk_new _ _)
      obtain ⟨c0, c1, c2, _, _, _⟩ := blk3 G1
      have hb0 : Below w.heap.size w w1 := ((Below.refl w.heap.size w).alloc (Nat.le_refl _) (.cells #[.int .i64 f, .string y, .slice a n q] 50 (0, 0))).trans (hb1.mono (by simp))
      have hlt : w.heap.size < w1.heap.size := (Array.getElem?_eq_some_iff.1 G1).1
      have k0 : ∀ ob, (w1.alloc ob).cell? ⟨w.heap.size, 1, none⟩ = some (.string y) := fun ob => Go.Lib.cell?_alloc_some ob c1
      have k1 : ∀ ob, (w1.alloc ob).cell? ⟨w.heap.size, 2, none⟩ = some (.slice a n q) := fun ob => Go.Lib.cell?_alloc_some ob c2
      have HS1 := hide s1
      have SA := hide (HA.out.below hb0)
      have B1 := hide hb0
      clear ho1 hb1 G1 s1 hb0
      go_wp2_with fail
      refine (C2.out _ _ _ _ (HS1.out.below ((Below.refl _ _).alloc (Nat.le_refl _) _)) (SA.out.below ((Below.refl _ _).alloc (Nat.le_refl _) _)) bb HBB.out).mono ?_
      rintro e w2 ⟨rfl, hb2⟩
      have B2 := hide ((B1.out.alloc B1.out.size _).trans (hb2.mono (by have := B1.out.size; simp; omega)))
      clear hb2
      go_wp2
      go_ret
      exact ⟨rfl, B2.out⟩
    · have hE : bb = false := by
        cases bb with
        | false => rfl
        | true => exact absurd (hbb.1 rfl).2.1 hws
      have hne : ¬ y.toList = s.toList := fun e => extract_ne s (wh s) (by omega) (by rw [← hy]; exact toList_inj e)
      subst hE
      clear hbb hy ht ha hn hl hm hws C2
      go_enter Tryd.func68, Tryd.ntmps68
      go_wp2_with fail
      refine (C1.out _ (HT.out.below ((Below.refl _ _).alloc (Nat.le_refl _) _))).mono ?_
      rintro e w1 ⟨v1, rfl, ho1, hb1⟩
      obtain ⟨a1, q1, rfl, s1, _⟩ := own_form ho1
      have G1 : w1.heap[w.heap.size]? = some (.cells #[.int .i64 f, .string s, .slice a n q] 50 (0, 0)) := (hb1.block w.heap.size (by simp)).trans (blk_new _ _)
      obtain ⟨c0, c1, c2, _, _, _⟩ := blk3 G1
      have hb0 : Below w.heap.size w w1 := ((Below.refl w.heap.size w).alloc (Nat.le_refl _) (.cells #[.int .i64 f, .string s, .slice a n q] 50 (0, 0))).trans (hb1.mono (by simp))
      have hlt : w.heap.size < w1.heap.size := (Array.getElem?_eq_some_iff.1 G1).1
      have k0 : ∀ ob, (w1.alloc ob).cell? ⟨w.heap.size, 1, none⟩ = some (.string s) := fun ob => Go.Lib.cell?_alloc_some ob c1
      have B1 := hide hb0
      clear ho1 hb1 G1 s1 hb0
      go_wp2
      go_ret
      exact ⟨rfl, B1.out.alloc B1.out.size _⟩
end Go.Proofs.YtbcljhafdpnjbabDoor.L6

namespace Go.Proofs.YtbcljhafdpnjbabDoor.L6
open Go.RowKit L1
set_option linter.unusedVariables false

theorem ba_nil6 {n : ByteArray} : n.toList = [] ↔ n.size = 0 := by
  constructor
  · intro h
    have h2 : n = ByteArray.empty := by
      apply ByteArray.ext
      apply Array.toList_inj.1
      rw [← ByteArray.toList_eq, h]
      rfl
    rw [h2]; rfl
  · intro h
    rw [ByteArray.toList_eq]
    exact List.eq_nil_of_length_eq_zero (by simpa using h)

open Classical in
set_option maxRecDepth 100000 in
set_option maxHeartbeats 4000000 in
theorem goodPieces_any (a : Option Addr) (L : List Pc) (n cap : Nat) (w : World) (hn : L.length = n) (h1 : 1 ≤ n) (h20 : n ≤ 20) (hs : SlC w a L) (hst : TxC L) (hf0 : 0 ≤ (gc L 0).f) (hf1 : (gc L 0).f ≤ 100000) (ht : Tab w) (bb : Bool) (hbb : bb = true ↔ GoodPs L) :
    Calls Tryd.prog 45 #[.slice a n cap] w fun e w' => e = .returned (.bool bb) ∧ Below w.heap.size w w' := by
  have HS := hide hs
  have HN := hide hn
  have HST := hide hst
  have HT := hide ht
  have HBB := hide hbb
  have HF0 := hide hf0
  have HF1 := hide hf1
  obtain ⟨b0, off0, rfl, a0, c0, hat0⟩ := hs 0 (by rw [hn]; exact h1)
  have hk0 := hat0.f
  rw [Nat.zero_mul, Nat.add_zero] at hk0
  obtain ⟨f0, hff0⟩ : ∃ f0, f0 = (gc L 0).f := ⟨_, rfl⟩
  rw [show (L.getD 0 eC).f = f0 from hff0.symm] at hk0
  have HFF := hide hff0
  clear hs hn hst ht hbb hat0 hf0 hf1 hff0
  go_enter Tryd.func45, Tryd.ntmps45
  go_wp2
  go_loopw [4, 16] (fun t i wr => ∃ k : Nat, k ≤ n ∧ i = .int .i64 k ∧ t = .int .i64 (atg L k) ∧ Hid (∀ j, j < k → OkC L j) ∧ Below w.heap.size w wr) (fun _ i _ => n - (intOf i).toNat)
  case atStart => exact ⟨0, Nat.zero_le _, rfl, by rw [HFF.out]; rfl, fun j hj => absurd hj (Nat.not_lt_zero _), Below.refl _ _⟩
  case round =>
    obtain ⟨k, hk, rfl, rfl, HK, hbel⟩ := hrel
    by_cases hlt : k < n
    · obtain ⟨b, off, hab, ai, ci, hat⟩ := HS.out.below hbel k (by rw [HN.out]; exact hlt)
      cases hab
      have hltI : (k : Int) < (n : Int) := by omega
      have hsx := HST.out k (by rw [HN.out]; exact hlt)
      have hgb := atg_bd L k (fun j hj => (HK.out j hj).1)
      have hok : bb = true → OkC L k := fun h => HBB.out.1 h k (by rw [HN.out]; exact hlt)
      have hnext : atg L (k + 1) = atg L k + (cnt (gc L k).s : Int) := rfl
      have hstep : OkC L k → ∀ j, j < k + 1 → OkC L j := fun h j hj => by
        by_cases e : j = k
        · subst e; exact h
        · exact HK.out j (by omega)
      have hOk : OkC L k ↔ GoodP (gc L k) ∧ (gc L k).f = atg L k ∧ (k + 1 < n → cnt (gc L k).s ≠ 0) := by unfold OkC; rw [HN.out]
      have hd1 := hat.f
      have hd2 := hat.s
      have hd3 := hat.x
      have hd4 := hat.l
      obtain ⟨p, hp⟩ : ∃ p, p = gc L k := ⟨_, rfl⟩
      rw [show L.getD k eC = p from hp.symm] at hd1 hd2 hd3 hd4 hsx
      rw [← hp] at hnext hOk
      obtain ⟨f, s, x⟩ := p
      simp only at hd1 hd2 hd3 hd4 hsx hnext hOk
      obtain ⟨m, hm⟩ : ∃ m, m = x.length := ⟨_, rfl⟩
      rw [← hm] at hd3 hsx
      obtain ⟨t, htt⟩ : ∃ t, t = atg L k := ⟨_, rfl⟩
      rw [← htt] at hnext hOk hgb ⊢
      have hgb2 : 0 ≤ t ∧ t ≤ 101200 := by have h1 := HF0.out; have h2 := HF1.out; omega
      have HD4 := hide hd4
      have HNX := hide hnext
      have HST2 := hide hstep
      have HOK := hide hOk
      have HOK0 := hide hok
      have B0 := hide hbel
      have HM := hide hm.symm
      clear hat hp hm htt hgb hnext hstep hOk hok hd4 hbel
      by_cases hft : f = t
      · subst hft
        obtain ⟨bk, hbk⟩ : ∃ bk : Bool, bk = true ↔ GoodP ⟨f, s, x⟩ := ⟨decide (GoodP ⟨f, s, x⟩), by simp⟩
        have C1 := hide (fun w ha ht => goodPiece_any f s ai x m ci w HM.out ha hsx.2 hsx.1 ht bk hbk)
        have HBK := hide hbk
        clear hbk hsx
        cases bk with
        | false =>
          have hE : bb = false := by
            cases bb with
            | false => rfl
            | true => exact absurd (HBK.out.2 (HOK.out.1 (HOK0.out rfl)).1) (by simp)
          subst hE
          go_wp2_with fail
          refine (C1.out _ (HD4.out.below ((Below.refl _ _).alloc (Nat.le_refl _) _)) (HT.out.below ((B0.out.alloc B0.out.size _)))).mono ?_
          rintro e w1 ⟨rfl, hb1⟩
          have B1 := hide ((B0.out.alloc B0.out.size (.cells #[.int .i64 f, .string s, .slice ai m ci] 50 (0, 0))).trans (hb1.mono (by have := B0.out.size; simp; omega)))
          have G1 : w1.heap[wr.heap.size]? = some (.cells #[.int .i64 f, .string s, .slice ai m ci] 50 (0, 0)) := (hb1.block wr.heap.size (by simp)).trans (blk_new _ _)
          obtain ⟨c0, c1, c2, _, _, _⟩ := blk3 G1
          clear hb1 G1
          go_wp2
          go_ret
          exact ⟨rfl, B1.out⟩
        | true =>
          have hgp := HBK.out.1 rfl
          have hcs := good_empty hgp
          have hc60 := good_cnt hgp
          have hs60 := hgp.1
          simp only at hcs hc60 hs60
          by_cases hem : (k : Int) < (n : Int) - 1 ∧ s.toList = []
          · obtain ⟨hem1, hem2⟩ := hem
            have hE : bb = false := by
              cases bb with
              | false => rfl
              | true =>
                have h3 := (HOK.out.1 (HOK0.out rfl)).2.2 (by omega)
                exact absurd (hcs.2 (ba_nil6.1 hem2)) h3
            subst hE
            clear hgp hcs
            go_wp2_with fail
            refine (C1.out _ (HD4.out.below ((Below.refl _ _).alloc (Nat.le_refl _) _)) (HT.out.below ((B0.out.alloc B0.out.size _)))).mono ?_
            rintro e w1 ⟨rfl, hb1⟩
            have B1 := hide ((B0.out.alloc B0.out.size (.cells #[.int .i64 f, .string s, .slice ai m ci] 50 (0, 0))).trans (hb1.mono (by have := B0.out.size; simp; omega)))
            have G1 : w1.heap[wr.heap.size]? = some (.cells #[.int .i64 f, .string s, .slice ai m ci] 50 (0, 0)) := (hb1.block wr.heap.size (by simp)).trans (blk_new _ _)
            obtain ⟨c0, c1, c2, _, _, _⟩ := blk3 G1
            clear hb1 G1
            go_wp2
            go_ret
            exact ⟨rfl, B1.out⟩
          · have hokk := HOK.out.2 ⟨hgp, rfl, fun h e0 => hem ⟨by omega, ba_nil6.2 (hcs.1 e0)⟩⟩
            have HALL := hide (HST2.out hokk)
            have C2 := hide (fun w ht => endOfPiece_any f s ai m ci w (by omega) (by omega) (by omega) ht)
            rw [← HNX.out] at C2
            clear hgp hcs hokk
            by_cases hem1 : (k : Int) < (n : Int) - 1
            · have hem2 : s.toList.isEmpty = false := by
                cases hq : s.toList.isEmpty with
                | false => rfl
                | true => exact absurd ⟨hem1, List.isEmpty_iff.1 hq⟩ hem
              clear hem
              go_wp2_with fail
              refine (C1.out _ (HD4.out.below ((Below.refl _ _).alloc (Nat.le_refl _) _)) (HT.out.below ((B0.out.alloc B0.out.size _)))).mono ?_
              rintro e w1 ⟨rfl, hb1⟩
              have B1 := hide ((B0.out.alloc B0.out.size (.cells #[.int .i64 f, .string s, .slice ai m ci] 50 (0, 0))).trans (hb1.mono (by have := B0.out.size; simp; omega)))
              have G1 : w1.heap[wr.heap.size]? = some (.cells #[.int .i64 f, .string s, .slice ai m ci] 50 (0, 0)) := (hb1.block wr.heap.size (by simp)).trans (blk_new _ _)
              obtain ⟨c0, c1, c2, _, _, _⟩ := blk3 G1
              clear hb1 G1
              go_wp2_with fail
              refine (C2.out _ (HT.out.below B1.out)).mono ?_
              rintro e w2 ⟨rfl, hb2⟩
              have B2 := hide (B1.out.trans (hb2.mono B1.out.size))
              clear hb2
              go_wp2
              go_roundw
              case rel => exact ⟨k + 1, by omega, by go_num, rfl, HALL.out, B2.out⟩
              case measure => simp [intOf]; omega
            · clear hem
              go_wp2_with fail
              refine (C1.out _ (HD4.out.below ((Below.refl _ _).alloc (Nat.le_refl _) _)) (HT.out.below ((B0.out.alloc B0.out.size _)))).mono ?_
              rintro e w1 ⟨rfl, hb1⟩
              have B1 := hide ((B0.out.alloc B0.out.size (.cells #[.int .i64 f, .string s, .slice ai m ci] 50 (0, 0))).trans (hb1.mono (by have := B0.out.size; simp; omega)))
              have G1 : w1.heap[wr.heap.size]? = some (.cells #[.int .i64 f, .string s, .slice ai m ci] 50 (0, 0)) := (hb1.block wr.heap.size (by simp)).trans (blk_new _ _)
              obtain ⟨c0, c1, c2, _, _, _⟩ := blk3 G1
              clear hb1 G1
              go_wp2_with fail
              refine (C2.out _ (HT.out.below B1.out)).mono ?_
              rintro e w2 ⟨rfl, hb2⟩
              have B2 := hide (B1.out.trans (hb2.mono B1.out.size))
              clear hb2
              go_wp2
              go_roundw
              case rel => exact ⟨k + 1, by omega, by go_num, rfl, HALL.out, B2.out⟩
              case measure => simp [intOf]; omega
      · have hE : bb = false := by
          cases bb with
          | false => rfl
          | true => exact absurd (HOK.out.1 (HOK0.out rfl)).2.1 hft
        subst hE
        clear hsx
        go_wp2
        go_ret
        exact ⟨rfl, B0.out.alloc B0.out.size _⟩
    · obtain rfl : k = n := by omega
      have hltI : ¬ (k : Int) < (k : Int) := by omega
      have hE : bb = true := HBB.out.2 (fun i hi => HK.out i (by rw [← HN.out]; exact hi))
      subst hE
      obtain ⟨t, htt⟩ : ∃ t, t = atg L k := ⟨_, rfl⟩
      rw [← htt]
      go_wp2
      go_ret
      exact ⟨rfl, hbel⟩
end Go.Proofs.YtbcljhafdpnjbabDoor.L6

namespace Go.Proofs.YtbcljhafdpnjbabDoor.L6
open Go.RowKit L1
set_option linter.unusedVariables false

theorem blk2 {w : World} {g : Nat} {a b : Value} {t : TypeId} (h : w.heap[g]? = some (.cells #[a, b] t (0, 0))) :
    w.cell? ⟨g, 0, none⟩ = some a ∧ w.cell? ⟨g, 1, none⟩ = some b := by
  simp [World.cell?, h]
/-- What is asked of a log's pieces where its end is looked up. -/
structure LogAt (w : World) (a : Option Addr) (L : List Pc) (n : Nat) : Prop where
  len : L.length = n
  one : 1 ≤ n
  few : n ≤ 20
  sl : SlC w a L
  f0 : 0 ≤ (gc L 0).f ∧ (gc L 0).f ≤ 100000
  fl : 0 ≤ (gc L (n - 1)).f ∧ (gc L (n - 1)).f ≤ 1000000
  sz : (gc L (n - 1)).s.size ≤ 60
  tab : Tab w
theorem LogAt.below {w w' : World} {a : Option Addr} {L : List Pc} {n : Nat} (h : LogAt w a L n) (hb : Below w.heap.size w w') : LogAt w' a L n :=
  ⟨h.len, h.one, h.few, h.sl.below hb, h.f0, h.fl, h.sz, h.tab.below hb⟩
theorem lastEnd_bd {w : World} {a : Option Addr} {L : List Pc} {n : Nat} (h : LogAt w a L n) : 0 ≤ lastEnd L n ∧ lastEnd L n ≤ 1000060 := by
  have h1 := h.fl
  have h2 := h.sz
  have h3 := cnt_le (gc L (n - 1)).s
  unfold lastEnd
  omega

set_option maxRecDepth 100000 in
set_option maxHeartbeats 1000000 in
theorem endOf_any (a : Option Addr) (L : List Pc) (n cap : Nat) (B : Int) (w : World) (h : LogAt w a L n) :
    Calls Tryd.prog 37 #[.agg #[.slice a n cap, .int .i64 B]] w fun e w' => e = .returned (.int .i64 (lastEnd L n)) ∧ Below w.heap.size w w' := by
  obtain ⟨m, hm⟩ : ∃ m, m = n - 1 := ⟨_, rfl⟩
  have h1 := h.one
  have h20 := h.few
  have hnm : (n : Int) - 1 = (m : Int) := by omega
  have hmn : (m : Int) < (n : Int) := by omega
  have hm0 : (0 : Int) ≤ (m : Int) := by omega
  obtain ⟨b, off, rfl, ai, ci, hat⟩ := h.sl m (by rw [h.len]; omega)
  have hfl := h.fl
  have hsz := h.sz
  have hT := hide h.tab
  unfold lastEnd
  rw [← hm] at hfl hsz ⊢
  have hd1 := hat.f
  have hd2 := hat.s
  have hd3 := hat.x
  obtain ⟨p, hp⟩ : ∃ p, p = gc L m := ⟨_, rfl⟩
  rw [show L.getD m eC = p from hp.symm] at hd1 hd2 hd3
  rw [← hp] at hfl hsz ⊢
  obtain ⟨f, s, x⟩ := p
  simp only at hd1 hd2 hd3 hfl hsz ⊢
  obtain ⟨k, hk⟩ : ∃ k, k = x.length := ⟨_, rfl⟩
  rw [← hk] at hd3
  have C := hide (fun w ht => endOfPiece_any f s ai k ci w (by omega) (by omega) (by omega) ht)
  have e1 := Go.Lib.cell?_alloc_some (.cells #[.slice (some ⟨b, off, none⟩) n cap, .int .i64 B] 25 (0, 0)) hd1
  have e2 := Go.Lib.cell?_alloc_some (.cells #[.slice (some ⟨b, off, none⟩) n cap, .int .i64 B] 25 (0, 0)) hd2
  have e3 := Go.Lib.cell?_alloc_some (.cells #[.slice (some ⟨b, off, none⟩) n cap, .int .i64 B] 25 (0, 0)) hd3
  clear hat hp hk h hm
  go_enter Tryd.func37, Tryd.ntmps37
  go_wp2_with fail
  refine (C.out _ (hT.out.below ((Below.refl _ _).alloc (Nat.le_refl _) _))).mono ?_
  rintro e w1 ⟨rfl, hb1⟩
  have B1 := hide (((Below.refl w.heap.size w).alloc (Nat.le_refl _) (.cells #[.slice (some ⟨b, off, none⟩) n cap, .int .i64 B] 25 (0, 0))).trans (hb1.mono (by simp)))
  clear hb1
  go_wp2
  go_ret
  exact ⟨rfl, B1.out⟩

/-- A log's own two cells and one of its first piece's stay where they are. -/
theorem keepL {wa wb : World} {g b o N : Nat} {v0 v1 v2 : Value} {W : World} (h : (wa.cell? ⟨g, 0, none⟩ = some v0 ∧ wa.cell? ⟨g, 1, none⟩ = some v1 ∧ wa.cell? ⟨b, o, none⟩ = some v2) ∧ Below N W wa) (hb : Below wa.heap.size wa wb) (hN : N ≤ W.heap.size) : (wb.cell? ⟨g, 0, none⟩ = some v0 ∧ wb.cell? ⟨g, 1, none⟩ = some v1 ∧ wb.cell? ⟨b, o, none⟩ = some v2) ∧ Below N W wb := by
  obtain ⟨⟨h1, h2, h3⟩, h4⟩ := h
  exact ⟨⟨(hb.cell (p := ⟨g, 0, none⟩) (blk_lt h1)).trans h1, (hb.cell (p := ⟨g, 1, none⟩) (blk_lt h2)).trans h2, (hb.cell (p := ⟨b, o, none⟩) (blk_lt h3)).trans h3⟩, h4.trans (hb.mono (Nat.le_trans hN h4.size))⟩

set_option maxRecDepth 100000 in
set_option maxHeartbeats 1000000 in
theorem recordsIn_any (a : Option Addr) (L : List Pc) (n cap : Nat) (B : Int) (w : World) (h : LogAt w a L n) :
    Calls Tryd.prog 33 #[.agg #[.slice a n cap, .int .i64 B]] w fun e w' => e = .returned (.int .i64 (lastEnd L n - (gc L 0).f)) ∧ Below w.heap.size w w' := by
  have h1 := h.one
  have h20 := h.few
  have hn0 : 0 < n := by omega
  have hle := lastEnd_bd h
  have hf0 := h.f0
  obtain ⟨b, off, rfl, ai, ci, hat⟩ := h.sl 0 (by rw [h.len]; omega)
  have hd1 := hat.f
  rw [Nat.zero_mul, Nat.add_zero] at hd1
  have C := hide (fun wx (hb : Below w.heap.size w wx) => endOf_any (some ⟨b, off, none⟩) L n cap B wx (h.below hb))
  obtain ⟨f, hf⟩ : ∃ f, f = (gc L 0).f := ⟨_, rfl⟩
  rw [show (L.getD 0 eC).f = f from hf.symm] at hd1
  rw [← hf] at hf0 ⊢
  obtain ⟨E, hE⟩ : ∃ E, E = lastEnd L n := ⟨_, rfl⟩
  rw [← hE] at hle C ⊢
  have hwr : IntKind.i64.wrap (E - f) = E - f := wrap6 (by omega) (by omega)
  have e1 := Go.Lib.cell?_alloc_some (.cells #[.slice (some ⟨b, off, none⟩) n cap, .int .i64 B] 25 (0, 0)) hd1
  obtain ⟨w0, hw0⟩ : ∃ w0, w0 = w.alloc (.cells #[.slice (some ⟨b, off, none⟩) n cap, .int .i64 B] 25 (0, 0)) := ⟨_, rfl⟩
  have k0 : w0.cell? ⟨w.heap.size, 0, none⟩ = some (.slice (some ⟨b, off, none⟩) n cap) ∧ w0.cell? ⟨w.heap.size, 1, none⟩ = some (.int .i64 B) := by rw [hw0]; exact blk2 (blk_new _ _)
  rw [← hw0] at e1
  have hb0 : Below w.heap.size w w0 := by rw [hw0]; exact (Below.refl w.heap.size w).alloc (Nat.le_refl _) _
  have HW := hide hw0
  have HB := hide hb0
  clear hat hf hE h hw0 hb0
  go_enter Tryd.func33, Tryd.ntmps33
  go_wp2
  rw [← HW.out]
  obtain ⟨k1, k2⟩ := k0
  go_region_held3 (fun wx => (wx.cell? ⟨w.heap.size, 0, none⟩ = some (.slice (some ⟨b, off, none⟩) n cap) ∧ wx.cell? ⟨w.heap.size, 1, none⟩ = some (.int .i64 B) ∧ wx.cell? ⟨b, off, none⟩ = some (.int .i64 f)) ∧ Below w0.heap.size w0 wx) (first | exact ⟨⟨k1, k2, e1⟩, (Below.refl _ _).drew⟩ | exact keepL (by assumption) (by assumption) (Nat.le_refl _)) ((go_at_call 37; refine (C.out _ (HB.out.trans ((by first | exact And.right (by assumption) | exact (Below.refl _ _).drew | exact Below.refl _ _ : Below w0.heap.size w0 _).mono HB.out.size))).mono ?_; rintro e w1 ⟨rfl, hb⟩))
  rename_i hHeld
  have B1 := hide (HB.out.trans (hHeld.2.mono HB.out.size))
  clear hHeld
  go_wp2
  go_ret
  exact ⟨rfl, B1.out⟩
end Go.Proofs.YtbcljhafdpnjbabDoor.L6

namespace Go.Proofs.YtbcljhafdpnjbabDoor.L6
open Go.RowKit L1
set_option linter.unusedVariables false

theorem goodG_split (L : List Pc) (B : Int) (h1 : 1 ≤ L.length) (h20 : L.length ≤ 20) (hf0 : 0 ≤ (gc L 0).f) (hf1 : (gc L 0).f ≤ 100000) (hp : GoodPs L) :
    GoodG L B ↔ (gc L 0).f ≤ B ∧ B ≤ (gc L 0).f + (cnt (gc L 0).s : Int) ∧ lastEnd L L.length - (gc L 0).f ≤ 60 := by
  have he : atg L L.length = lastEnd L L.length := end_last h1 hp
  constructor
  · intro h
    exact ⟨h.b0, h.b1, by rw [← he]; exact h.few⟩
  · rintro ⟨a, b, c⟩
    exact ⟨h1, h20, hf0, hf1, hp, a, b, by rw [he]; exact c⟩
theorem logAt_of {w : World} {a : Option Addr} {L : List Pc} {n : Nat} (hn : L.length = n) (h1 : 1 ≤ n) (h20 : n ≤ 20) (hs : SlC w a L) (hf0 : 0 ≤ (gc L 0).f) (hf1 : (gc L 0).f ≤ 100000) (hp : GoodPs L) (ht : Tab w) : LogAt w a L n := by
  subst hn
  have hk := hp (L.length - 1) (by omega)
  have hb := atg_bd L (L.length - 1) (fun j hj => (hp j (by omega)).1)
  refine ⟨rfl, h1, h20, hs, ⟨hf0, hf1⟩, ?_, hk.1.1, ht⟩
  rw [hk.2.1]
  omega
theorem GoodG.logAt {w : World} {a : Option Addr} {L : List Pc} {B : Int} {n : Nat} (h : GoodG L B) (hn : L.length = n) (hs : SlC w a L) (ht : Tab w) : LogAt w a L n :=
  logAt_of hn (by rw [← hn]; exact h.one) (by rw [← hn]; exact h.many) hs h.f0 h.f1 h.ps ht
theorem bool_no {bb : Bool} {P : Prop} (h : bb = true ↔ P) (hn : ¬ P) : bb = false := by
  cases bb with
  | false => rfl
  | true => exact absurd (h.1 rfl) hn
theorem bool_yes {bb : Bool} {P : Prop} (h : bb = true ↔ P) (hn : P) : bb = true := h.2 hn

open Classical in
set_option maxRecDepth 100000 in
set_option maxHeartbeats 4000000 in
theorem goodLog_any (a : Option Addr) (L : List Pc) (n cap : Nat) (B : Int) (w : World) (hn : L.length = n) (hm : n ≤ 9223372036854775807) (hs : SlC w a L) (hst : TxC L) (ht : Tab w) (bb : Bool) (hbb : bb = true ↔ GoodG L B) :
    Calls Tryd.prog 14 #[.agg #[.slice a n cap, .int .i64 B]] w fun e w' => e = .returned (.bool bb) ∧ Below w.heap.size w w' := by
  by_cases h1 : (n : Int) < 1
  · obtain rfl := bool_no hbb (fun h => by have := h.one; omega)
    clear hbb hn hs hst ht
    go_enter Tryd.func14, Tryd.ntmps14
    go_wp2
    go_ret
    exact ⟨rfl, (Below.refl _ _).alloc (Nat.le_refl _) _⟩
  · by_cases h20 : (20 : Int) < (n : Int)
    · obtain rfl := bool_no hbb (fun h => by have := h.many; omega)
      clear hbb hn hs hst ht
      go_enter Tryd.func14, Tryd.ntmps14
      go_wp2
      go_ret
      exact ⟨rfl, (Below.refl _ _).alloc (Nat.le_refl _) _⟩
    · have hn1 : 1 ≤ n := by omega
      have hn0 : 0 < n := by omega
      have hn20 : n ≤ 20 := by omega
      have hsx := hst 0 (by rw [hn]; omega)
      obtain ⟨b, off, rfl, ai, ci, hat⟩ := hs 0 (by rw [hn]; omega)
      have hd1 := hat.f
      have hd2 := hat.s
      have hd3 := hat.x
      rw [Nat.zero_mul, Nat.add_zero] at hd1 hd2 hd3
      have hgf : (L.getD 0 eC) = gc L 0 := rfl
      rw [hgf] at hd1 hd2 hd3 hsx
      have e1 : ∀ ob, (w.alloc ob).cell? ⟨b, off, none⟩ = some (.int .i64 (gc L 0).f) := fun ob => Go.Lib.cell?_alloc_some ob hd1
      have e2 : ∀ ob, (w.alloc ob).cell? ⟨b, off + 1, none⟩ = some (.string (gc L 0).s) := fun ob => Go.Lib.cell?_alloc_some ob hd2
      have e3 : ∀ ob, (w.alloc ob).cell? ⟨b, off + 2, none⟩ = some (.slice ai (gc L 0).x.length ci) := fun ob => Go.Lib.cell?_alloc_some ob hd3
      have HS := hide hs
      have HN := hide hn
      have HST := hide hst
      have HT := hide ht
      have HBB := hide hbb
      obtain ⟨f, hf⟩ : ∃ f, f = (gc L 0).f := ⟨_, rfl⟩
      obtain ⟨s, hss⟩ : ∃ s, s = (gc L 0).s := ⟨_, rfl⟩
      obtain ⟨m, hmm⟩ : ∃ m, m = (gc L 0).x.length := ⟨_, rfl⟩
      rw [← hf] at e1
      rw [← hss] at e2
      rw [← hmm] at e3
      have HF := hide hf
      have HSS := hide hss
      clear hs hn hst ht hbb hat hd1 hd2 hd3 hgf hsx hf hss hmm
      by_cases hf0 : f < 0
      · obtain rfl := bool_no HBB.out (fun h => by have := h.f0; rw [← HF.out] at this; omega)
        go_enter Tryd.func14, Tryd.ntmps14
        go_wp2
        go_ret
        exact ⟨rfl, ((Below.refl _ _).alloc (Nat.le_refl _) _).alloc (by simp) _⟩
      · by_cases hf1 : (100000 : Int) < f
        · obtain rfl := bool_no HBB.out (fun h => by have := h.f1; rw [← HF.out] at this; omega)
          go_enter Tryd.func14, Tryd.ntmps14
          go_wp2
          go_ret
          exact ⟨rfl, ((Below.refl _ _).alloc (Nat.le_refl _) _).alloc (by simp) _⟩
        · obtain ⟨bk, hbk⟩ : ∃ bk : Bool, bk = true ↔ GoodPs L := ⟨decide (GoodPs L), by simp⟩
          have C1 := hide (fun wx (hb : Below w.heap.size w wx) => goodPieces_any (some ⟨b, off, none⟩) L n cap wx HN.out hn1 hn20 (HS.out.below hb) HST.out (by rw [← HF.out]; omega) (by rw [← HF.out]; omega) (HT.out.below hb) bk hbk)
          cases bk with
          | false =>
            obtain rfl := bool_no HBB.out (fun h => absurd (hbk.2 h.ps) (by simp))
            clear hbk
            go_enter Tryd.func14, Tryd.ntmps14
            go_wp2_with fail
            refine (C1.out _ (((Below.refl _ _).alloc (Nat.le_refl _) _).alloc (by simp) _)).mono ?_
            rintro e w1 ⟨rfl, hb1⟩
            have B1 := hide ((((Below.refl w.heap.size w).alloc (Nat.le_refl _) (.cells #[.slice (some ⟨b, off, none⟩) n cap, .int .i64 B] 25 (0, 0))).alloc (by simp) (.cells #[.int .i64 f, .string s, .slice ai m ci] 50 (0, 0))).trans (hb1.mono (by simp; omega)))
            clear hb1
            go_wp2
            go_ret
            exact ⟨rfl, B1.out⟩
          | true =>
            have hps := hbk.1 rfl
            have hsp := goodG_split L B (by rw [HN.out]; exact hn1) (by rw [HN.out]; exact hn20) (by rw [← HF.out]; omega) (by rw [← HF.out]; omega) hps
            rw [HN.out, ← HF.out, ← HSS.out] at hsp
            have hla : LogAt w (some ⟨b, off, none⟩) L n := logAt_of HN.out hn1 hn20 HS.out (by rw [← HF.out]; omega) (by rw [← HF.out]; omega) hps HT.out
            have hs60 : s.size ≤ 60 := by rw [HSS.out]; exact (hps 0 (by rw [HN.out]; omega)).1.1
            have C2 := hide (fun wx (hb : Below w.heap.size w wx) => endOfPiece_any f s ai m ci wx (by omega) (by omega) (by omega) (HT.out.below hb))
            have C3 := hide (fun wx (hb : Below w.heap.size w wx) => recordsIn_any (some ⟨b, off, none⟩) L n cap B wx (hla.below hb))
            rw [← HF.out] at C3
            have hcl := cnt_le s
            obtain ⟨E, hE⟩ : ∃ E, E = lastEnd L n - f := ⟨_, rfl⟩
            obtain ⟨N, hN⟩ : ∃ N, N = f + (cnt s : Int) := ⟨_, rfl⟩
            rw [← hE] at hsp C3
            rw [← hN] at hsp C2
            have HSP := hide hsp
            clear hbk hps hsp hla hE hN hcl
            go_enter Tryd.func14, Tryd.ntmps14
            go_wp2_with fail
            refine (C1.out _ (((Below.refl _ _).alloc (Nat.le_refl _) _).alloc (by simp) _)).mono ?_
            rintro e w1 ⟨rfl, hb1⟩
            have B1 := hide ((((Below.refl w.heap.size w).alloc (Nat.le_refl _) (.cells #[.slice (some ⟨b, off, none⟩) n cap, .int .i64 B] 25 (0, 0))).alloc (by simp) (.cells #[.int .i64 f, .string s, .slice ai m ci] 50 (0, 0))).trans (hb1.mono (by simp; omega)))
            have G0 : w1.heap[w.heap.size]? = some (.cells #[.slice (some ⟨b, off, none⟩) n cap, .int .i64 B] 25 (0, 0)) := (hb1.block w.heap.size (by simp; omega)).trans ((((Below.refl (w.alloc (.cells #[.slice (some ⟨b, off, none⟩) n cap, .int .i64 B] 25 (0, 0))).heap.size _).alloc (Nat.le_refl _) _).block w.heap.size (by simp)).trans (blk_new _ _))
            have G1 : w1.heap[w.heap.size + 1]? = some (.cells #[.int .i64 f, .string s, .slice ai m ci] 50 (0, 0)) := (hb1.block (w.heap.size + 1) (by simp)).trans (by have := blk_new (w.alloc (.cells #[.slice (some ⟨b, off, none⟩) n cap, .int .i64 B] 25 (0, 0))) (.cells #[.int .i64 f, .string s, .slice ai m ci] 50 (0, 0)); rw [World.size_alloc] at this; exact this)
            obtain ⟨k0, k1⟩ := blk2 G0
            obtain ⟨c0, c1, c2, _, _, _⟩ := blk3 G1
            clear hb1 G0 G1
            by_cases hB0 : f ≤ B
            · by_cases hB1 : B ≤ N
              · have hE2 : bb = decide (E ≤ 60) := by
                  have h1 := HBB.out
                  rw [HSP.out] at h1
                  cases bb with
                  | true => exact (decide_eq_true (h1.1 rfl).2.2).symm
                  | false =>
                    refine (decide_eq_false (fun h => ?_)).symm
                    exact absurd (h1.2 ⟨hB0, hB1, h⟩) (by simp)
                subst hE2
                go_wp2
                go_region_held3 (fun wx => (wx.cell? ⟨w.heap.size, 0, none⟩ = some (.slice (some ⟨b, off, none⟩) n cap) ∧ wx.cell? ⟨w.heap.size, 1, none⟩ = some (.int .i64 B) ∧ wx.cell? ⟨w.heap.size + 1, 0, none⟩ = some (.int .i64 f) ∧ wx.cell? ⟨w.heap.size + 1, 1, none⟩ = some (.string s) ∧ wx.cell? ⟨w.heap.size + 1, 2, none⟩ = some (.slice ai m ci)) ∧ Below w1.heap.size w1 wx) (first | exact ⟨⟨k0, k1, c0, c1, c2⟩, (Below.refl _ _).drew⟩ | exact keep5 (by assumption) (by assumption) (Nat.le_refl _)) (first | (go_at_call 46; refine (C2.out _ (B1.out.trans ((by first | exact And.right (by assumption) | exact (Below.refl _ _).drew | exact Below.refl _ _ : Below w1.heap.size w1 _).mono B1.out.size))).mono ?_; rintro e w2 ⟨rfl, hb⟩) | (go_at_call 33; refine (C3.out _ (B1.out.trans ((by first | exact And.right (by assumption) | exact (Below.refl _ _).drew | exact Below.refl _ _ : Below w1.heap.size w1 _).mono B1.out.size))).mono ?_; rintro e w2 ⟨rfl, hb⟩))
                rename_i hHeld
                have B2 := hide (B1.out.trans (hHeld.2.mono B1.out.size))
                clear hHeld
                go_wp2
                go_ret
                exact ⟨rfl, B2.out⟩
              · obtain rfl := bool_no HBB.out (fun h => hB1 (HSP.out.1 h).2.1)
                have C4 := hide (fun wx (hb : Below w1.heap.size w1 wx) => (C2.out wx (B1.out.trans (hb.mono B1.out.size))).mono (R' := fun e w2 => e = .returned (.int .i64 N) ∧ Below w1.heap.size w1 w2 ∧ w2.cell? ⟨w.heap.size, 0, none⟩ = some (.slice (some ⟨b, off, none⟩) n cap) ∧ w2.cell? ⟨w.heap.size, 1, none⟩ = some (.int .i64 B) ∧ w2.cell? ⟨w.heap.size + 1, 0, none⟩ = some (.int .i64 f) ∧ w2.cell? ⟨w.heap.size + 1, 1, none⟩ = some (.string s) ∧ w2.cell? ⟨w.heap.size + 1, 2, none⟩ = some (.slice ai m ci)) (by
                  rintro e w2 ⟨rfl, hb2⟩
                  have h3 := hb.trans (hb2.mono hb.size)
                  obtain ⟨⟨j0, j1, j2, j3, j4⟩, _⟩ := keep5 (wa := w1) (wb := w2) (W := w1) (N := w1.heap.size) ⟨⟨k0, k1, c0, c1, c2⟩, Below.refl _ _⟩ h3 (Nat.le_refl _)
                  exact ⟨rfl, h3, j0, j1, j2, j3, j4⟩))
                go_wp2
                go_region_with (go_at_call 46; refine (C4.out _ ?_).mono ?_; (first | exact Below.refl _ _ | exact (Below.refl _ _).drew | exact ((Below.refl _ _).drew).drew); rintro e w2 ⟨rfl, hb2, d0, d1, d2, d3, d4⟩)
                all_goals (have B2 := hide (B1.out.trans (hb2.mono B1.out.size)); clear hb2; go_wp2; go_ret; exact ⟨rfl, B2.out⟩)
            · obtain rfl := bool_no HBB.out (fun h => hB0 (HSP.out.1 h).1)
              go_wp2
              have hB2 : decide (f ≤ B) = false := decide_eq_false (by omega)
              refine wp_region_held_drew (S := fun wx => (wx.cell? ⟨w.heap.size, 0, none⟩ = some (.slice (some ⟨b, off, none⟩) n cap) ∧ wx.cell? ⟨w.heap.size, 1, none⟩ = some (.int .i64 B) ∧ wx.cell? ⟨w.heap.size + 1, 0, none⟩ = some (.int .i64 f) ∧ wx.cell? ⟨w.heap.size + 1, 1, none⟩ = some (.string s) ∧ wx.cell? ⟨w.heap.size + 1, 2, none⟩ = some (.slice ai m ci)) ∧ Below w1.heap.size w1 wx) (by kernel_rfl) ⟨⟨k0, k1, c0, c1, c2⟩, (Below.refl _ _).drew⟩ (fun hHeld => ?_)
              refine wpAnyH_take (i := 0) (v := ?v1) rfl (by kernel_rfl) (by kernel_rfl) (by kernel_rfl) (fun _ _ _ h => h) (Or.inl ⟨by rfl, ?y1⟩) (by assumption) ?r1
              case y1 => (intro w hSw; (try dsimp only at hSw); go_simp; try (with_reducible rfl))
              simp only [List.getElem_toArray, List.getElem_cons_zero, Act.put, List.setIfInBounds_toArray, List.set_cons_zero, List.set_cons_succ]
              refine wpAnyH_take (i := 1) (v := ?v2) rfl (by kernel_rfl) (by kernel_rfl) (by kernel_rfl) (fun _ _ _ h => h) (Or.inl ⟨by rfl, ?y2⟩) (by assumption) ?r2
              case y2 => (intro w hSw; (try dsimp only at hSw); go_simp; try (with_reducible rfl))
              simp only [List.getElem_toArray, List.getElem_cons_succ, List.getElem_cons_zero, Act.put, List.setIfInBounds_toArray, List.set_cons_zero, List.set_cons_succ]
              refine wpAnyH_take (i := 2) (v := ?v3) rfl (by kernel_rfl) (by kernel_rfl) (by kernel_rfl) (fun _ _ _ h => h) (Or.inl ⟨by rfl, ?y3⟩) (by assumption) ?r3
              case y3 => (intro w hSw; (try dsimp only at hSw); go_simp; try (with_reducible rfl))
              simp only [List.getElem_toArray, List.getElem_cons_succ, List.getElem_cons_zero, Act.put, List.setIfInBounds_toArray, List.set_cons_zero, List.set_cons_succ]
              refine wpAnyH_take (i := 3) (v := ?v4) rfl (by kernel_rfl) (by kernel_rfl) (by kernel_rfl) (fun _ _ _ h => h) (Or.inl ⟨by rfl, ?y4⟩) (by assumption) ?r4
              case y4 => (intro w hSw; (try dsimp only at hSw); go_simp; try (with_reducible rfl))
              simp only [List.getElem_toArray, List.getElem_cons_succ, List.getElem_cons_zero, Act.put, List.setIfInBounds_toArray, List.set_cons_zero, List.set_cons_succ]
              refine wpAnyH_take (i := 4) (v := ?v5) rfl (by kernel_rfl) (by kernel_rfl) (by kernel_rfl) (fun _ _ _ h => h) (Or.inl ⟨by rfl, ?y5⟩) (by assumption) ?r5
              case y5 => (intro w hSw; (try dsimp only at hSw); go_simp; try (with_reducible rfl))
              simp only [List.getElem_toArray, List.getElem_cons_succ, List.getElem_cons_zero, Act.put, List.setIfInBounds_toArray, List.set_cons_zero, List.set_cons_succ]
              try simp only [hB2]
              refine wpAnyH_take (i := 5) (v := ?v6) rfl (by kernel_rfl) (by kernel_rfl) (by kernel_rfl) (fun _ _ _ h => h) (Or.inl ⟨by rfl, ?y6⟩) (by assumption) ?r6
              case y6 => (intro w hSw; (try dsimp only at hSw); go_simp; try (with_reducible rfl))
              simp only [List.getElem_toArray, List.getElem_cons_succ, List.getElem_cons_zero, Act.put, List.setIfInBounds_toArray, List.set_cons_zero, List.set_cons_succ]
              refine wpAnyH_take (i := 6) (v := undef) rfl (by kernel_rfl) (by kernel_rfl) (by kernel_rfl) (fun _ _ _ h => h) (Or.inr ⟨by rfl, rfl⟩) (by assumption) ?_
              simp only [List.getElem_toArray, List.getElem_cons_succ, List.getElem_cons_zero, Act.put, List.setIfInBounds_toArray, List.set_cons_zero, List.set_cons_succ]
              refine wpAnyH_take (i := 7) (v := undef) rfl (by kernel_rfl) (by kernel_rfl) (by kernel_rfl) (fun _ _ _ h => h) (Or.inr ⟨by rfl, rfl⟩) (by assumption) ?_
              simp only [List.getElem_toArray, List.getElem_cons_succ, List.getElem_cons_zero, Act.put, List.setIfInBounds_toArray, List.set_cons_zero, List.set_cons_succ]
              refine wpAnyH_take (i := 8) (v := undef) rfl (by kernel_rfl) (by kernel_rfl) (by kernel_rfl) (fun _ _ _ h => h) (Or.inr ⟨by rfl, rfl⟩) (by assumption) ?_
              simp only [List.getElem_toArray, List.getElem_cons_succ, List.getElem_cons_zero, Act.put, List.setIfInBounds_toArray, List.set_cons_zero, List.set_cons_succ]
              refine wpAnyH_take (i := 9) (v := undef) rfl (by kernel_rfl) (by kernel_rfl) (by kernel_rfl) (fun _ _ _ h => h) (Or.inr ⟨by rfl, rfl⟩) (by assumption) ?_
              simp only [List.getElem_toArray, List.getElem_cons_succ, List.getElem_cons_zero, Act.put, List.setIfInBounds_toArray, List.set_cons_zero, List.set_cons_succ]
              refine wpAnyH_take (i := 10) (v := undef) rfl (by kernel_rfl) (by kernel_rfl) (by kernel_rfl) (fun _ _ _ h => h) (Or.inr ⟨by rfl, rfl⟩) (by assumption) ?_
              simp only [List.getElem_toArray, List.getElem_cons_succ, List.getElem_cons_zero, Act.put, List.setIfInBounds_toArray, List.set_cons_zero, List.set_cons_succ]
              refine wpAnyH_take (i := 11) (v := ?v12) rfl (by kernel_rfl) (by kernel_rfl) (by kernel_rfl) (fun _ _ _ h => h) (Or.inl ⟨by rfl, ?y12⟩) (by assumption) ?r12
              case y12 => (intro w hSw; (try dsimp only at hSw); go_simp; try (with_reducible rfl))
              simp only [List.getElem_toArray, List.getElem_cons_succ, List.getElem_cons_zero, Act.put, List.setIfInBounds_toArray, List.set_cons_zero, List.set_cons_succ]
              refine wpAnyH_take (i := 12) (v := ?v13) rfl (by kernel_rfl) (by kernel_rfl) (by kernel_rfl) (fun _ _ _ h => h) (Or.inl ⟨by rfl, ?y13⟩) (by assumption) ?r13
              case y13 => (intro w hSw; (try dsimp only at hSw); go_simp; try (with_reducible rfl))
              simp only [List.getElem_toArray, List.getElem_cons_succ, List.getElem_cons_zero, Act.put, List.setIfInBounds_toArray, List.set_cons_zero, List.set_cons_succ]
              refine wpAnyH_take (i := 13) (v := undef) rfl (by kernel_rfl) (by kernel_rfl) (by kernel_rfl) (fun _ _ _ h => h) (Or.inr ⟨by rfl, rfl⟩) (by assumption) ?_
              simp only [List.getElem_toArray, List.getElem_cons_succ, List.getElem_cons_zero, Act.put, List.setIfInBounds_toArray, List.set_cons_zero, List.set_cons_succ]
              refine wpAnyH_take (i := 14) (v := undef) rfl (by kernel_rfl) (by kernel_rfl) (by kernel_rfl) (fun _ _ _ h => h) (Or.inr ⟨by rfl, rfl⟩) (by assumption) ?_
              simp only [List.getElem_toArray, List.getElem_cons_succ, List.getElem_cons_zero, Act.put, List.setIfInBounds_toArray, List.set_cons_zero, List.set_cons_succ]
              refine wpAnyH_take (i := 15) (v := undef) rfl (by kernel_rfl) (by kernel_rfl) (by kernel_rfl) (fun _ _ _ h => h) (Or.inr ⟨by rfl, rfl⟩) (by assumption) ?_
              simp only [List.getElem_toArray, List.getElem_cons_succ, List.getElem_cons_zero, Act.put, List.setIfInBounds_toArray, List.set_cons_zero, List.set_cons_succ]
              refine wpAnyH_take (i := 16) (v := ?v17) rfl (by kernel_rfl) (by kernel_rfl) (by kernel_rfl) (fun _ _ _ h => h) (Or.inl ⟨by rfl, ?y17⟩) (by assumption) ?r17
              case y17 => (intro w hSw; (try dsimp only at hSw); go_simp; try (with_reducible rfl))
              simp only [List.getElem_toArray, List.getElem_cons_succ, List.getElem_cons_zero, Act.put, List.setIfInBounds_toArray, List.set_cons_zero, List.set_cons_succ]
              refine wpAnyH_take (i := 17) (v := ?v18) rfl (by kernel_rfl) (by kernel_rfl) (by kernel_rfl) (fun _ _ _ h => h) (Or.inl ⟨by rfl, ?y18⟩) (by assumption) ?r18
              case y18 => (intro w hSw; (try dsimp only at hSw); go_simp; try (with_reducible rfl))
              simp only [List.getElem_toArray, List.getElem_cons_succ, List.getElem_cons_zero, Act.put, List.setIfInBounds_toArray, List.set_cons_zero, List.set_cons_succ]
              refine wpAnyH_done (by kernel_rfl) ?_ _
              have B2 := hide (B1.out.trans (hHeld.2.mono B1.out.size))
              clear hHeld
              go_wp2
              go_ret
              exact ⟨rfl, B2.out⟩
end Go.Proofs.YtbcljhafdpnjbabDoor.L6

namespace Go.Proofs.YtbcljhafdpnjbabDoor.L6
open Go.RowKit L1
set_option linter.unusedVariables false

set_option maxRecDepth 100000 in
set_option maxHeartbeats 1000000 in
theorem isWithin_any (a : Option Addr) (L : List Pc) (n cap : Nat) (B o : Int) (w : World) (h : LogAt w a L n) (bb : Bool) (hbb : bb = true ↔ B ≤ o ∧ o ≤ lastEnd L n) :
    Calls Tryd.prog 47 #[.agg #[.slice a n cap, .int .i64 B], .int .i64 o] w fun e w' => e = .returned (.bool bb) ∧ Below w.heap.size w w' := by
  by_cases h1 : B ≤ o
  · have C := hide (fun wx (hb : Below w.heap.size w wx) => endOf_any a L n cap B wx (h.below hb))
    obtain ⟨E, hE⟩ : ∃ E, E = lastEnd L n := ⟨_, rfl⟩
    rw [← hE] at C hbb
    have hE2 : bb = decide (o ≤ E) := by
      cases bb with
      | true => exact (decide_eq_true (hbb.1 rfl).2).symm
      | false =>
        refine (decide_eq_false (fun h => ?_)).symm
        exact absurd (hbb.2 ⟨h1, h⟩) (by simp)
    subst hE2
    clear hbb h hE
    go_enter Tryd.func47, Tryd.ntmps47
    go_wp2_with fail
    refine (C.out _ ((Below.refl _ _).alloc (Nat.le_refl _) _)).mono ?_
    rintro e w1 ⟨rfl, hb1⟩
    have B1 := hide (((Below.refl w.heap.size w).alloc (Nat.le_refl _) (.cells #[.slice a n cap, .int .i64 B] 25 (0, 0))).trans (hb1.mono (by simp)))
    clear hb1
    go_wp2
    go_ret
    exact ⟨rfl, B1.out⟩
  · obtain rfl : bb = false := by
      cases bb with
      | false => rfl
      | true => exact absurd (hbb.1 rfl).1 h1
    clear hbb h
    go_enter Tryd.func47, Tryd.ntmps47
    go_wp2
    go_ret
    exact ⟨rfl, (Below.refl _ _).alloc (Nat.le_refl _) _⟩

set_option maxRecDepth 100000 in
set_option maxHeartbeats 1000000 in
theorem pieceAt_any (a : Option Addr) (L : List Pc) (n cap : Nat) (B o : Int) (w : World) (hn : L.length = n) (h1 : 1 ≤ n) (h20 : n ≤ 20) (hs : SlC w a L) (i : Nat) (hi : pcAt L o (n - 1) = i) :
    Calls Tryd.prog 48 #[.agg #[.slice a n cap, .int .i64 B], .int .i64 o] w fun e w' => e = .returned (.int .i64 i) ∧ Below w.heap.size w w' := by
  have hnm : (n : Int) - 1 = ((n - 1 : Nat) : Int) := by omega
  obtain ⟨m, hm⟩ : ∃ m, m = n - 1 := ⟨_, rfl⟩
  rw [← hm] at hnm hi
  have HS := hide (hs.below (w' := w.alloc (.cells #[.slice a n cap, .int .i64 B] 25 (0, 0))) ((Below.refl _ _).alloc (Nat.le_refl _) _))
  have HN := hide hn
  have HI := hide hi
  have hmn : m < n := by omega
  clear hn hs hi hm
  go_enter Tryd.func48, Tryd.ntmps48
  go_wp2
  go_loop [5] (fun t => ∃ k : Nat, k ≤ m ∧ t = .int .i64 k ∧ Hid (pcAt L o k = i)) (fun t => (intOf t).toNat)
  case atStart => exact ⟨m, Nat.le_refl _, rfl, HI.out⟩
  case round =>
    obtain ⟨k, hk, rfl, HK⟩ := hrel
    cases k with
    | zero =>
      have E : Hid (i = 0) := HK.out.symm
      go_wp2
      go_ret
      exact ⟨by rw [E.out]; rfl, (Below.refl _ _).alloc (Nat.le_refl _) _⟩
    | succ k =>
      obtain ⟨b, off, rfl, ai, ci, hat⟩ := HS.out (k + 1) (by rw [HN.out]; omega)
      have hd1 := hat.f
      rw [show L.getD (k + 1) eC = gc L (k + 1) from rfl] at hd1
      have hu : pcAt L o (k + 1) = if o < (gc L (k + 1)).f then pcAt L o k else k + 1 := rfl
      have hK := HK.out
      rw [hu] at hK
      obtain ⟨f, hf⟩ : ∃ f, f = (gc L (k + 1)).f := ⟨_, rfl⟩
      rw [← hf] at hd1 hK
      obtain ⟨j, hj⟩ : ∃ j, j = k + 1 := ⟨_, rfl⟩
      rw [← hj] at hd1 hK ⊢
      have hj0 : (0 : Int) < (j : Int) := by omega
      have hjn : (j : Int) < (n : Int) := by omega
      have hj1 : (j : Int) - 1 = (k : Int) := by omega
      have hjp : 0 < j := by omega
      have HKJ := hide hj
      clear hat hf hu HK hj
      by_cases hlt : o < f
      · rw [if_pos hlt] at hK
        have HK := hide hK
        clear hK
        go_wp2
        go_round
        case rel => exact ⟨k, by omega, rfl, HK.out⟩
        case measure => simp [intOf]; omega
      · rw [if_neg hlt] at hK
        have HK := hide hK
        clear hK
        go_wp2
        go_ret
        exact ⟨by rw [← HK.out]; rfl, (Below.refl _ _).alloc (Nat.le_refl _) _⟩

end Go.Proofs.YtbcljhafdpnjbabDoor.L6
