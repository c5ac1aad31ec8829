/-
  Contract: spec.l1Cur.among: one of some numbers.
  Contract: the draws' own events: some events, at most 42, that the caller owns.
  Contracts: the draws of clocks, spec.DrawLessClock.
  Contract: spec.DrawLessClock.
  Contracts: spec.DrawCutOf, spec.DrawIsCut, spec.DrawJoinCuts.
  Contract of the laws' own helper laws.numberOf: it tells some number.
-/
import Derived.Test.YtkfnejiiancmhadBundle6
import Derived.Test.YtkfnejiiancmhadBundle1
import Derived.Deep.DeepCutAuto
import Derived.Maps.AppendAt
namespace Go.Proofs.Ytkfnejiiancmhad.L1
open Go.RowKit
set_option linter.unusedVariables false

set_option maxRecDepth 100000 in
set_option maxHeartbeats 400000 in
theorem among_any (b N g m cap : Nat) (xs : List Int) (w : World) (h : Cur w b N) (hN : N ≤ 1000000000) (hxs : xs.length = m) (h1 : 1 ≤ m) (h2 : m ≤ 1000) (hg : g ≠ b) (hs : Sl w (some ⟨g, 0, none⟩) xs) :
    Calls Try.prog 71 #[.pointer (some ⟨b, 0, none⟩), .slice (some ⟨g, 0, none⟩) m cap] w fun e w' => ∃ j, j < m ∧ e = .returned (.int .i64 (xs.getD j 0)) ∧ Cur w' b (N + 2) ∧ w.grownBy w' (some b) := by
  have HC := hide h
  have HS := hide hs
  have HX := hide hxs
  clear h hs hxs
  go_enter Try.func71, Try.ntmps71
  go_wp2_with fail
  refine (pick_any b N _ _ HC.out hN (by omega) (by omega)).mono ?_
  rintro e w1 ⟨x, rfl, hx0, hx1, hxm, hc1, hg1⟩
  have hxm' : x < (m : Int) := hxm (by omega)
  clear hxm
  obtain ⟨j, rfl⟩ : ∃ j : Nat, x = (j : Int) := ⟨x.toNat, by omega⟩
  have hc0 := HS.out.at j (by rw [HX.out]; omega)
  have hc : w1.cell? ⟨g, 0 + j, none⟩ = some (.int .i64 (xs.getD j 0)) := by
    rw [World.cell?_of_block (w := w) (hg1.block g (blk_lt hc0) (by simpa using hg))]
    exact hc0
  simp only [Nat.zero_add] at hc
  have H1 := hide hc1
  have G1 := hide hg1
  have hj : j < m := by omega
  obtain ⟨y, hy⟩ : ∃ y, y = xs.getD j 0 := ⟨_, rfl⟩
  rw [← hy] at hc
  have HY := hide hy
  clear hc1 hg1 hc0 hy
  go_wp2
  go_ret
  exact ⟨j, hj, by rw [← HY.out]; rfl, H1.out, G1.out⟩

end Go.Proofs.Ytkfnejiiancmhad.L1

namespace Go.Proofs.Ytkfnejiiancmhad.L11
open Go.RowKit L1 L4
set_option linter.unusedVariables false

/-- Some events that the caller owns. -/
def OwnEv (w : World) (B : Nat) (v : Value) (k : Nat) : Prop := ∃ l : List (Int × Int), l.length = k ∧ w.ownsRow B 118 2 v k (flat l)
theorem OwnEv.grown {w w' : World} {B b k : Nat} {v : Value} (h : OwnEv w B v k) (hg : w.grownBy w' (some b)) (hb : b < B) : OwnEv w' B v k := by
  obtain ⟨xs, hl, ho⟩ := h
  exact ⟨xs, hl, own_grown4 ho hg hb⟩
theorem OwnEv.below {w w' : World} {B k : Nat} {v : Value} (h : OwnEv w B v k) (hb : Below w.heap.size w w') : OwnEv w' B v k := by
  obtain ⟨xs, hl, ho⟩ := h
  exact ⟨xs, hl, own_belowT ho hb⟩
theorem OwnEv.shape {w : World} {B k : Nat} {v : Value} (h : OwnEv w B v k) : ∃ a cap, v = .slice a k cap := by
  obtain ⟨xs, hl, ho⟩ := h
  obtain ⟨a, cap, e, _, _⟩ := own_form2 ho
  exact ⟨a, cap, e⟩
/-- While an event is drawn: its box, the ones ahead, the cursor. -/
structure EB (w wx : World) (b M eb : Nat) (x : Int) (v : Value) (k : Nat) : Prop where
  bx : ∃ y : Int, wx.heap[eb]? = some (.cells #[.int .i64 x, .int .i64 y] 118 (0, 0))
  own : OwnEv wx w.heap.size v k
  ne : v.ownBlock ≠ some eb
  cur : Cur wx b M
  gr : w.grownBy wx (some b)
  ge : w.heap.size ≤ eb
theorem EB.grown {w wx w' : World} {b M M' eb k : Nat} {x : Int} {v : Value} (h : EB w wx b M eb x v k) (hb : b < w.heap.size) (hc : Cur w' b M') (hg : wx.grownBy w' (some b)) : EB w w' b M' eb x v k := by
  obtain ⟨y, hy⟩ := h.bx
  have hge := h.ge
  exact ⟨⟨y, (hg.block eb (Array.getElem?_eq_some_iff.1 hy).1 (by simp; omega)).trans hy⟩, h.own.grown hg hb, h.ne, hc, grown_trans h.gr hg, h.ge⟩
theorem grown_drewD {w w' : World} {r : Option Nat} (h : w.grownBy w' r) : ∀ q, w.grownBy (w'.drewN q) r
  | 0 => h
  | q + 1 => ⟨(grown_drewD h q).os, (grown_drewD h q).tape, (grown_drewD h q).output, (grown_drewD h q).size, (grown_drewD h q).block⟩
theorem drewN_heap (w : World) : ∀ q, (w.drewN q).heap = w.heap
  | 0 => rfl
  | q + 1 => drewN_heap w q
theorem EB.heap {w wx w' : World} {b M eb k : Nat} {x : Int} {v : Value} (h : EB w wx b M eb x v k) (hh : w'.heap = wx.heap) (hg : w.grownBy w' (some b)) : EB w w' b M eb x v k := by
  obtain ⟨y, hy⟩ := h.bx
  obtain ⟨xs, hl, ho⟩ := h.own
  refine ⟨⟨y, by rw [hh]; exact hy⟩, ⟨xs, hl, ho.1, ?_⟩, h.ne, h.cur.kept (fun k _ => by rw [hh]), hg, h.ge⟩
  rcases ho.2 with h0 | ⟨g, cap, cur, hv, hbg, hgg, r⟩
  · exact .inl h0
  · exact .inr ⟨g, cap, cur, hv, hbg, by rw [hh]; exact hgg, r⟩
theorem EB.set {w wx : World} {b M eb k : Nat} {x : Int} {v : Value} (h : EB w wx b M eb x v k) (hb : b < w.heap.size) (f : Int) : EB w (wx.setCell ⟨eb, 1, none⟩ (.int .i64 f)) b M eb x v k := by
  obtain ⟨y, hy⟩ := h.bx
  obtain ⟨xs, hl, ho⟩ := h.own
  have hge := h.ge
  refine ⟨⟨f, ?_⟩, ⟨xs, hl, ho.1, ?_⟩, h.ne, h.cur.kept (fun q hq => Below.heap_setCell wx ⟨eb, 1, none⟩ _ q (show q ≠ eb by omega)), ?_, h.ge⟩
  · have := heap_setCell_same wx eb 1 _ _ (.int .i64 f) hy
    rw [this]; rfl
  · rcases ho.2 with h0 | ⟨g, cap, cur, hv, hbg, hgg, r⟩
    · exact .inl h0
    · have hne : g ≠ eb := fun e => h.ne (by rw [hv, e]; rfl)
      exact .inr ⟨g, cap, cur, hv, hbg, by rw [Below.heap_setCell wx ⟨eb, 1, none⟩ _ g hne]; exact hgg, r⟩
  · exact ⟨h.gr.os, h.gr.tape, h.gr.output, by simpa using h.gr.size, fun q hq hn => (Below.heap_setCell wx ⟨eb, 1, none⟩ _ q (show q ≠ eb by omega)).trans (h.gr.block q hq hn)⟩
theorem EB.mono {w wx : World} {b M M' eb k : Nat} {x : Int} {v : Value} (h : EB w wx b M eb x v k) (hM : M ≤ M') : EB w wx b M' eb x v k := ⟨h.bx, h.own, h.ne, h.cur.mono hM, h.gr, h.ge⟩
theorem info_ev11 : (Try.prog.info? 118).map (fun i => (i.zero, i.size, i.bytes)) = some (some (.agg #[.int .i64 0, .int .i64 0]), 2, 16) := by kernel_rfl
theorem cell_two11 (w : World) (g : Nat) (hg : w.heap.size = g) (p q : Value) (t : TypeId) : ∀ j u, [p, q][j]? = some u → (w.alloc (.cells #[p, q] t)).cell? ((⟨g, 0, none⟩ : Addr).add j) = some u := by
  subst hg
  intro j u h
  rw [addr_add]
  match j, h with
  | 0, h => simp at h; subst h; simp
  | 1, h => simp at h; subst h; simp
  | j + 2, h => simp at h
theorem grown_app {w wc wa w6 : World} {b : Nat} {r : Option Nat} (h : w.grownBy wc (some b)) (hal : Below wc.heap.size wc wa) (hg : wa.grownBy w6 r) (hr : ∀ q, r = some q → w.heap.size ≤ q) : w.grownBy w6 (some b) :=
  ⟨hg.os.trans (hal.os.trans h.os), hg.tape.trans (hal.tape.trans h.tape), hg.output.trans (hal.output.trans h.output), Nat.le_trans h.size (Nat.le_trans hal.size hg.size), fun k hk hn =>
    (hg.block k (by have := h.size; have := hal.size; omega) (fun e => by have := hr k e.symm; omega)).trans ((hal.block k (by have := h.size; omega)).trans (h.block k hk hn))⟩
set_option maxRecDepth 100000 in
set_option maxHeartbeats 4000000 in
theorem events_any (b N : Nat) (w : World) (h : Cur w b N) (hN : N ≤ 1000000) :
    Calls Try.prog 74 #[.pointer (some ⟨b, 0, none⟩)] w fun e w' => ∃ (nn : Int) (k : Nat) (v : Value), e = .returned (.tuple #[.int .i64 nn, v]) ∧ (1 ≤ nn ∧ nn ≤ 4) ∧ k ≤ 41 ∧ OwnEv w' w.heap.size v k ∧ Cur w' b (N + 1000) ∧ w.grownBy w' (some b) := by
  have hbw := h.lt
  have HC := hide h
  obtain ⟨i1, hi1, hy0, hy1, hy2⟩ := info_parts info_ev11
  clear h
  go_enter Try.func74, Try.ntmps74
  go_wp2_with fail
  refine (pick_any b N 4 _ HC.out (by omega) (by omega) (by omega)).mono ?_
  rintro e w1 ⟨n0, rfl, hn0, _, hn4, hc1, hg1⟩
  have hn4' := hn4 (by omega)
  obtain ⟨nn, hnn⟩ : ∃ nn, 1 + n0 = nn := ⟨_, rfl⟩
  have hnb : 1 ≤ nn ∧ nn ≤ 4 := by omega
  have C1 := hide hc1
  have G1 := hide hg1
  clear hc1 hg1 hn4
  go_wp2_with fail
  refine (pick_any b _ 12 _ C1.out (by omega) (by omega) (by omega)).mono ?_
  rintro e w2 ⟨m0, rfl, hm0, _, hm12, hc2, hg2⟩
  have hm12' := hm12 (by omega)
  have C2 := hide hc2
  have G2 := hide (grown_trans G1.out hg2)
  clear hc2 hg2 hm12
  go_wp2_with fail
  refine (one_any b _ 20 _ C2.out (by omega) (by omega) (by omega)).mono ?_
  rintro e w3 ⟨t, rfl, hc3, hg3⟩
  have C3 := hide hc3
  have G3 := hide (grown_trans G2.out hg3)
  clear hc3 hg3
  go_upto_if 16 with fail
  go_cut [6] (fun tv wx => ∃ m : Nat, tv = .int .i64 m ∧ m ≤ 41 ∧ Cur wx b (N + 10) ∧ w.grownBy wx (some b))
  case first =>
    cases t with
    | false =>
      go_wp2_with fail
      go_meet
      exact ⟨m0.toNat, by congr 1; omega, by omega, C3.out.mono (by omega), G3.out⟩
    | true =>
      go_wp2_with fail
      refine (pick_any b _ 3 _ C3.out (by omega) (by omega) (by omega)).mono ?_
      rintro e w4 ⟨x4, rfl, hx4, _, hx3, hc4, hg4⟩
      have hx3' := hx3 (by omega)
      have C4 := hide hc4
      have G4 := hide (grown_trans G3.out hg4)
      clear hc4 hg4 hx3
      go_wp2_with fail
      go_meet
      exact ⟨(39 + x4).toNat, by congr 1; omega, by omega, C4.out.mono (by omega), G4.out⟩
  case rest =>
    obtain ⟨m, rfl, hm41, hcc, hgg⟩ := hcut
    have CC := hide hcc
    have GG := hide hgg
    clear hcc hgg C1 C2 C3 G1 G2 G3 HC hm0 hm12' t
    clear hnn
    go_wp2
    go_loopw [5, 7] (fun lv kv wr => ∃ k : Nat, k ≤ m ∧ kv = .int .i64 k ∧ Hid (OwnEv wr w.heap.size lv k) ∧ Hid (Cur wr b (N + 10 + 6 * k)) ∧ Hid (w.grownBy wr (some b))) (fun _ kv _ => m - (intOf kv).toNat)
    case atStart => exact ⟨0, Nat.zero_le _, rfl, ⟨[], rfl, World.ownsRow_nil _ _ _ _⟩, CC.out.mono (by omega), GG⟩
    case round =>
      obtain ⟨k, hk, rfl, HO, HCu, HGr⟩ := hrel
      obtain ⟨la, lcap, hlv⟩ := HO.out.shape
      subst hlv
      by_cases hlt : k < m
      · have hltI : (k : Int) < (m : Int) := by omega
        go_wp2_with fail
        refine (pick_any b _ nn _ HCu.out (by omega) (by omega) (by omega)).mono ?_
        rintro e w5 ⟨x, rfl, hx0, _, hx1, hc5, hg5⟩
        have O5 := hide (HO.out.grown hg5 hbw)
        have C5 := hide hc5
        have G5 := hide (grown_trans HGr.out hg5)
        clear hc5 hg5 hx1 HO HCu HGr
        go_upto_region 10 with fail
        obtain ⟨W0, hW0⟩ : ∃ W0, w5.alloc (.cells #[.int .i64 x, .int .i64 (-1)] 118) = W0 := ⟨_, rfl⟩
        have HE0 : Hid (EB w W0 b (N + 10 + 6 * k + 2) w5.heap.size x (.slice la k lcap) k) := by
          rw [← hW0]
          exact hide ⟨⟨-1, by show (w5.heap.push _)[w5.heap.size]? = _; exact Array.getElem?_push_size⟩, O5.out.below ((Below.refl _ _).alloc (Nat.le_refl _) _), (fun e => by obtain ⟨_, _, ho⟩ := O5.out; have := (ho.lt _ e).2; omega), C5.out.below ((Below.refl _ _).alloc (Nat.le_refl _) _), grown_trans G5.out (World.grownBy_alloc _ _ _), G5.out.size⟩
        rw [hW0]
        obtain ⟨eb, heb⟩ : ∃ eb, eb = w5.heap.size := ⟨_, rfl⟩
        rw [← heb] at HE0 ⊢
        clear hW0 heb O5 C5 G5
        by_cases hk0 : 0 < (k : Int)
        · go_wp2_with fail
          refine (one_any b _ 2 _ HE0.out.cur (by omega) (by omega) (by omega)).mono ?_
          rintro e w6 ⟨t, rfl, hc6, hg6⟩
          have HE1 := hide (HE0.out.grown hbw hc6 hg6)
          clear hc6 hg6 HE0
          go_upto_if 34 with fail
          go_cut [] (fun wx => Hid (EB w wx b (N + 10 + 6 * k + 6) eb x (.slice la k lcap) k))
          case first =>
            cases t with
            | false =>
              go_wp2_with fail
              go_meet
              exact hide ⟨HE1.out.bx, HE1.out.own, HE1.out.ne, HE1.out.cur.mono (by omega), HE1.out.gr, HE1.out.ge⟩
            | true =>
              go_wp2_with fail
              refine (pick_any b _ (k : Int) _ HE1.out.cur (by omega) (by omega) (by omega)).mono ?_
              rintro e w7 ⟨f0, rfl, hf0, _, hf1, hc7, hg7⟩
              have hf1' := hf1 (by omega)
              obtain ⟨f, hfe⟩ : ∃ f : Nat, f0 = (f : Int) := ⟨f0.toNat, by omega⟩
              subst hfe
              have HE2 := hide (HE1.out.grown hbw hc7 hg7)
              obtain ⟨y, hy⟩ := HE2.out.bx
              have c0 : w7.cell? ⟨eb, 0, none⟩ = some (.int .i64 x) := Lib.cell_of_heap hy 0
              have c1 : w7.cell? ⟨eb, 1, none⟩ = some (.int .i64 y) := Lib.cell_of_heap hy 1
              have fz := Lib.frozen_of_heap hy 1
              obtain ⟨l, hll, hol⟩ := HE2.out.own
              obtain ⟨lb, lo, hle, hcl, q9⟩ := (own_sl2 hol) f (by omega)
              subst hle
              obtain ⟨z, hz⟩ : ∃ z, z = (l.getD f (0, 0)).1 := ⟨_, rfl⟩
              rw [← hz] at hcl
              have hfI : (f : Int) < (k : Int) := by omega
              have HS2 := hide (HE2.out.set hbw (f : Int))
              clear hc7 hg7 hf1 hy hol q9 hz hll HE1
              by_cases hzx : z = x
              · have hzb : (z != x) = false := by simp [hzx]
                clear hzx HS2
                go_wp2
                go_quiet (fail)
                go_wp2_with fail
                go_meet
                exact hide ((HE2.out.heap (drewN_heap w7 _) (grown_drewD HE2.out.gr _)).mono (by omega))
              · have hzb : (z != x) = true := by simp [hzx]
                clear hzx
                go_wp2
                go_quiet (fail)
                go_wp2_with fail
                go_meet
                first
                  | exact hide (((HE2.out.heap (drewN_heap w7 _) (grown_drewD HE2.out.gr _)).set hbw (f : Int)).mono (by omega))
                  | exact hide ((HS2.out.heap (drewN_heap _ _) (grown_drewD HS2.out.gr _)).mono (by omega))
          case rest =>
            have HE := hcut
            clear hcut HE1 t
            obtain ⟨y, hy⟩ := HE.out.bx
            have c0 : wc.cell? ⟨eb, 0, none⟩ = some (.int .i64 x) := Lib.cell_of_heap hy 0
            have c1 : wc.cell? ⟨eb, 1, none⟩ = some (.int .i64 y) := Lib.cell_of_heap hy 1
            obtain ⟨l, hll, hol⟩ := HE.out.own
            have HO := hide hol
            have hszc := HE.out.gr.size
            clear hy hol
            go_wp2_with (first
              | (at_builtin; refine wpList_append_own_at _ rfl _ _ 63 rfl w.heap.size 118 i1 (.agg #[.int .i64 0, .int .i64 0]) 2 16 Try.underlying63 hi1 hy0 hy1 hy2 rfl (by decide) _ _ _ rfl (HO.out.alloc _) ⟨wc.heap.size, 0, none⟩ 1 1 [.int .i64 x, .int .i64 y] rfl rfl (cell_two11 _ _ rfl _ _ _) (by intro u hu; simp at hu; rcases hu with rfl | rfl <;> rfl) (by unfold maxLen; omega) (by omega) (by simp; omega) ?_)
              | go_in)
            intro v6 w6 hown6 hgrow6 _ _
            have hal : Below wc.heap.size wc (wc.alloc (.cells #[.int .i64 x, .int .i64 y] 118)) := (Below.refl _ _).alloc (Nat.le_refl _) _
            have hrr : ∀ q, (Value.slice la k lcap).ownBlock = some q → w.heap.size ≤ q := fun q hq => (HO.out.lt q hq).1
            have G6 := hide (grown_app HE.out.gr hal hgrow6 hrr)
            have O6 : Hid (OwnEv w6 w.heap.size v6 (k + 1)) := hide ⟨l ++ [(x, y)], by simp [hll], by rw [flat_append]; exact hown6⟩
            have C6 : Hid (Cur w6 b (N + 10 + 6 * (k + 1))) := hide ((HE.out.cur.kept (fun q hq => (hgrow6.block q (by have := HE.out.cur.lt; simp; omega) (fun e => by have := hrr q e.symm; omega)).trans (hal.block q (by have := HE.out.cur.lt; omega)))).mono (by omega))
            clear hown6 hgrow6 hal hrr
            go_wp2
            go_roundw
            case rel => exact ⟨k + 1, by omega, by go_num, O6, C6, G6⟩
            case measure => simp [intOf]; omega
        · obtain rfl : k = 0 := by omega
          have HE := HE0
          clear HE0
          obtain ⟨y, hy⟩ := HE.out.bx
          have c0 : W0.cell? ⟨eb, 0, none⟩ = some (.int .i64 x) := Lib.cell_of_heap hy 0
          have c1 : W0.cell? ⟨eb, 1, none⟩ = some (.int .i64 y) := Lib.cell_of_heap hy 1
          obtain ⟨l, hll, hol⟩ := HE.out.own
          have HO := hide hol
          have hszc := HE.out.gr.size
          clear hy hol
          go_wp2_with (first
            | (at_builtin; refine wpList_append_own_at _ rfl _ _ 63 rfl w.heap.size 118 i1 (.agg #[.int .i64 0, .int .i64 0]) 2 16 Try.underlying63 hi1 hy0 hy1 hy2 rfl (by decide) _ _ _ rfl (HO.out.alloc _) ⟨W0.heap.size, 0, none⟩ 1 1 [.int .i64 x, .int .i64 y] rfl rfl (cell_two11 _ _ rfl _ _ _) (by intro u hu; simp at hu; rcases hu with rfl | rfl <;> rfl) (by unfold maxLen; omega) (by omega) (by simp; omega) ?_)
            | go_in)
          intro v6 w6 hown6 hgrow6 _ _
          have hal : Below W0.heap.size W0 (W0.alloc (.cells #[.int .i64 x, .int .i64 y] 118)) := (Below.refl _ _).alloc (Nat.le_refl _) _
          have hrr : ∀ q, (Value.slice la 0 lcap).ownBlock = some q → w.heap.size ≤ q := fun q hq => (HO.out.lt q hq).1
          have G6 := hide (grown_app HE.out.gr hal hgrow6 hrr)
          have O6 : Hid (OwnEv w6 w.heap.size v6 (0 + 1)) := hide ⟨l ++ [(x, y)], by simp [hll], by rw [flat_append]; exact hown6⟩
          have C6 : Hid (Cur w6 b (N + 10 + 6 * (0 + 1))) := hide ((HE.out.cur.kept (fun q hq => (hgrow6.block q (by have := HE.out.cur.lt; simp; omega) (fun e => by have := hrr q e.symm; omega)).trans (hal.block q (by have := HE.out.cur.lt; omega)))).mono (by omega))
          clear hown6 hgrow6 hal hrr
          go_wp2
          go_roundw
          case rel => exact ⟨0 + 1, by omega, by go_num, O6, C6, G6⟩
          case measure => simp [intOf]; omega
      · obtain rfl : k = m := by omega
        have hltI : ¬ (k : Int) < (k : Int) := by omega
        by_cases hk0 : 0 < (k : Int)
        · go_wp2_with fail
          refine (one_any b _ 30 _ HCu.out (by omega) (by omega) (by omega)).mono ?_
          rintro e w4 ⟨t, rfl, hc4, hg4⟩
          have O4 := hide (HO.out.grown hg4 hbw)
          have C4 := hide hc4
          have G4 := hide (grown_trans HGr.out hg4)
          clear hc4 hg4 HO HCu HGr
          cases t with
          | false =>
            go_wp2
            go_ret2
            exact ⟨nn, k, _, rfl, hnb, by omega, O4.out, C4.out.mono (by omega), G4.out⟩
          | true =>
            go_wp2_with fail
            refine (pick_any b _ 6 _ C4.out (by omega) (by omega) (by omega)).mono ?_
            rintro e w5 ⟨x5, rfl, hx5, hx5', _, hc5, hg5⟩
            have O5 := hide (O4.out.grown hg5 hbw)
            have C5 := hide hc5
            have G5 := hide (grown_trans G4.out hg5)
            clear hc5 hg5 O4 C4 G4
            go_wp2_with fail
            refine (pick_any b _ 3 _ C5.out (by omega) (by omega) (by omega)).mono ?_
            rintro e w6 ⟨x6, rfl, hx6, hx6', _, hc6, hg6⟩
            have O6 := hide (O5.out.grown hg6 hbw)
            have C6 := hide hc6
            have G6 := hide (grown_trans G5.out hg6)
            clear hc6 hg6 O5 C5 G5
            obtain ⟨l, hll, hol⟩ := O6.out
            obtain ⟨g, hlae⟩ : ∃ g, la = some ⟨g, 0, none⟩ := by
              rcases hol.2 with ⟨_, h0⟩ | ⟨g, cap, cur, hv, _⟩
              · omega
              · exact ⟨g, by simp at hv; exact hv.1⟩
            subst hlae
            have hgb := (hol.lt g rfl).1
            have hlf : (flat l).length = l.length * 2 := flat_len l
            have hcl := hol.cellAt 0 (by omega)
            have hcl1 := hol.cellAt 1 (by omega)
            have hfr := hol.frozenAt 0
            have hfr1 := hol.frozenAt 1
            obtain ⟨u, hu⟩ : ∃ u, w6.cell? ⟨g, 0, none⟩ = some u := ⟨_, hcl.trans (List.getElem?_eq_getElem (by omega))⟩
            obtain ⟨u1, hu1⟩ : ∃ u, w6.cell? ⟨g, 1, none⟩ = some u := ⟨_, hcl1.trans (List.getElem?_eq_getElem (by omega))⟩
            obtain ⟨z, hz⟩ : ∃ z, x6 - 1 = z := ⟨_, rfl⟩
            have hst := (hol.stored 0 (.int .i64 x5)).1.stored 1 (.int .i64 z)
            have O7 : Hid (OwnEv ((w6.setCell ⟨g, 0, none⟩ (.int .i64 x5)).setCell ⟨g, 1, none⟩ (.int .i64 z)) w.heap.size (.slice (some ⟨g, 0, none⟩) k lcap) k) := hide ⟨l.set 0 (x5, z), by simpa using hll, by rw [flat_set]; exact hst.1⟩
            have C7 : Hid (Cur ((w6.setCell ⟨g, 0, none⟩ (.int .i64 x5)).setCell ⟨g, 1, none⟩ (.int .i64 z)) b (N + 1000)) := hide ((C6.out.kept (fun q hq => (Below.heap_setCell _ ⟨g, 1, none⟩ _ q (show q ≠ g by omega)).trans (Below.heap_setCell w6 ⟨g, 0, none⟩ _ q (show q ≠ g by omega)))).mono (by omega))
            have G7 : Hid (w.grownBy ((w6.setCell ⟨g, 0, none⟩ (.int .i64 x5)).setCell ⟨g, 1, none⟩ (.int .i64 z)) (some b)) := hide ⟨G6.out.os, G6.out.tape, G6.out.output, by simpa using G6.out.size, fun q hq hn => ((Below.heap_setCell _ ⟨g, 1, none⟩ _ q (show q ≠ g by omega)).trans (Below.heap_setCell w6 ⟨g, 0, none⟩ _ q (show q ≠ g by omega))).trans (G6.out.block q hq hn)⟩
            clear hol hlf hcl hcl1 hst hll O6 C6 G6
            go_wp2
            (try rw [hz])
            go_ret2
            exact ⟨nn, k, _, rfl, hnb, by omega, O7.out, C7.out, G7.out⟩
        · obtain rfl : k = 0 := by omega
          go_wp2
          go_ret2
          exact ⟨nn, 0, _, rfl, hnb, by omega, HO.out, HCu.out.mono (by omega), HGr.out⟩
end Go.Proofs.Ytkfnejiiancmhad.L11

namespace Go.Proofs.Ytkfnejiiancmhad.L11
open Go.RowKit L1 L4
set_option linter.unusedVariables false

/-- Some ints that the caller owns. -/
def OwnC (w : World) (B : Nat) (v : Value) (k : Nat) : Prop := ∃ xs : List Int, xs.length = k ∧ w.ownsRow B 3 1 v k (xs.map (Value.int .i64))
theorem OwnC.grown {w w' : World} {B b k : Nat} {v : Value} (h : OwnC w B v k) (hg : w.grownBy w' (some b)) (hb : b < B) : OwnC w' B v k := by
  obtain ⟨xs, hl, ho⟩ := h
  exact ⟨xs, hl, own_grown4 ho hg hb⟩
theorem OwnC.base {w : World} {B B' k : Nat} {v : Value} (h : OwnC w B v k) (hB : B' ≤ B) : OwnC w B' v k := by
  obtain ⟨xs, hl, ho⟩ := h
  exact ⟨xs, hl, own_baseT ho hB⟩
theorem OwnC.shape {w : World} {B k : Nat} {v : Value} (h : OwnC w B v k) : ∃ a cap, v = .slice a k cap := by
  obtain ⟨xs, hl, ho⟩ := h
  obtain ⟨a, cap, e, _, _⟩ := own_form ho
  exact ⟨a, cap, e⟩
theorem cell_oneC (w : World) (g : Nat) (hg : w.heap.size = g) (p : Value) (t : TypeId) : ∀ j u, [p][j]? = some u → (w.alloc (.cells #[p] t)).cell? ((⟨g, 0, none⟩ : Addr).add j) = some u := by
  subst hg
  intro j u h
  rw [addr_add]
  match j, h with
  | 0, h => simp at h; subst h; simp
  | j + 1, h => simp at h
theorem grown_appC {w wc wa w6 : World} {b : Nat} {r : Option Nat} (h : w.grownBy wc (some b)) (hal : Below wc.heap.size wc wa) (hg : wa.grownBy w6 r) (hr : ∀ q, r = some q → w.heap.size ≤ q) : w.grownBy w6 (some b) :=
  ⟨hg.os.trans (hal.os.trans h.os), hg.tape.trans (hal.tape.trans h.tape), hg.output.trans (hal.output.trans h.output), Nat.le_trans h.size (Nat.le_trans hal.size hg.size), fun k hk hn =>
    (hg.block k (by have := h.size; have := hal.size; omega) (fun e => by have := hr k e.symm; omega)).trans ((hal.block k (by have := h.size; omega)).trans (h.block k hk hn))⟩
theorem lit_rowC (w : World) (cs : Array Value) (xs : List Int) (h : cs.toList = xs.map (Value.int .i64)) : Sl (w.alloc (.cells cs 3)) (some ⟨w.heap.size, 0, none⟩) xs := lit_row w cs xs h
set_option maxRecDepth 100000 in
set_option maxHeartbeats 4000000 in
theorem clock_any (b N : Nat) (w : World) (h : Cur w b N) (hN : N ≤ 1000000) :
    Calls Try.prog 85 #[.pointer (some ⟨b, 0, none⟩)] w fun e w' => ∃ (k : Nat) (v : Value), e = .returned v ∧ (1 ≤ k ∧ k ≤ 4) ∧ OwnC w' w.heap.size v k ∧ Cur w' b (N + 100) ∧ w.grownBy w' (some b) := by
  have hbw := h.lt
  have HC := hide h
  obtain ⟨i1, hi1, hy0, hy1, hy2⟩ := info_parts info_int
  clear h
  go_enter Try.func85, Try.ntmps85
  go_wp2_with fail
  refine (pick_any b N 9 _ HC.out (by omega) (by omega) (by omega)).mono ?_
  rintro e w1 ⟨x, rfl, hx0, _, hx9, hc1, hg1⟩
  have hx9' := hx9 (by omega)
  have htd : x.tdiv 8 = x / 8 := Int.tdiv_eq_ediv_of_nonneg hx0
  obtain ⟨q, hq⟩ : ∃ q : Nat, x / 8 = (q : Int) := ⟨(x / 8).toNat, by omega⟩
  have hq1 : q ≤ 1 := by omega
  rw [hq] at htd
  obtain ⟨T, hT⟩ : ∃ T : Nat, (3 : Int) + (q : Int) = (T : Int) := ⟨3 + q, by omega⟩
  have hT4 : 3 ≤ T ∧ T ≤ 4 := by omega
  have C1 := hide hc1
  have G1 := hide hg1
  clear hc1 hg1 hx9 hx9'
  go_wp2
  go_loopw [3, 4] (fun lv nv wr => ∃ (c k : Nat), nv = .int .i64 c ∧ k + c = T ∧ Hid (OwnC wr w.heap.size lv k) ∧ Hid (Cur wr b (N + 2 + 2 * k)) ∧ Hid (w.grownBy wr (some b))) (fun _ nv _ => (intOf nv).toNat)
  case atStart => exact ⟨T, 0, by first | rfl | (congr 1), by omega, ⟨[], rfl, World.ownsRow_nil _ _ _ _⟩, C1, G1⟩
  case round =>
    obtain ⟨c, k, rfl, hck, HO, HCu, HGr⟩ := hrel
    obtain ⟨la, lcap, hlv⟩ := HO.out.shape
    subst hlv
    by_cases hc0 : 0 < (c : Int)
    · go_wp2_with fail
      refine (pick_any b _ 4 _ HCu.out (by omega) (by omega) (by omega)).mono ?_
      rintro e w5 ⟨z, rfl, hz0, _, _, hc5, hg5⟩
      have O5 := hide (HO.out.grown hg5 hbw)
      have C5 := hide hc5
      have G5 := hide (grown_trans HGr.out hg5)
      obtain ⟨xs, hxl, hox⟩ := O5.out
      have HOX := hide hox
      have hsz5 := G5.out.size
      have hcI : (c : Int) - 1 = ((c - 1 : Nat) : Int) := by omega
      have HCI := hide hcI
      clear hc5 hg5 HO HCu HGr hox hcI
      go_wp2_with (first
        | (at_builtin; refine wpList_append_own_at _ rfl _ _ 27 rfl w.heap.size 3 i1 (.int .i64 0) 1 8 Try.underlying27 hi1 hy0 hy1 hy2 rfl (by decide) _ _ _ rfl (HOX.out.alloc _) ⟨w5.heap.size, 0, none⟩ 1 1 [.int .i64 z] rfl rfl (cell_oneC _ _ rfl _ _) (by intro u hu; simp at hu; subst hu; rfl) (by unfold maxLen; omega) (by omega) (by simp; omega) ?_)
        | go_in)
      intro v6 w6 hown6 hgrow6 _ _
      have hal : Below w5.heap.size w5 (w5.alloc (.cells #[.int .i64 z] 3)) := (Below.refl _ _).alloc (Nat.le_refl _) _
      have hrr : ∀ q, (Value.slice la k lcap).ownBlock = some q → w.heap.size ≤ q := fun q hq => (HOX.out.lt q hq).1
      have G6 := hide (grown_appC G5.out hal hgrow6 hrr)
      have O6 : Hid (OwnC w6 w.heap.size v6 (k + 1)) := hide ⟨xs ++ [z], by simp [hxl], by rw [List.map_append]; exact hown6⟩
      have C6 : Hid (Cur w6 b (N + 2 + 2 * (k + 1))) := hide ((C5.out.kept (fun q hq => (hgrow6.block q (by have := C5.out.lt; simp; omega) (fun e => by have := hrr q e.symm; omega)).trans (hal.block q (by have := C5.out.lt; omega)))).mono (by omega))
      clear hown6 hgrow6 hal hrr O5 C5 G5 HOX hxl
      go_wp2
      go_roundw
      case rel => exact ⟨c - 1, k + 1, by first | rw [HCI.out] | (congr 1; omega), by omega, O6, C6, G6⟩
      case measure => simp [intOf]; omega
    · obtain rfl : c = 0 := by omega
      obtain rfl : k = T := by omega
      go_wp2_with fail
      refine (one_any b _ 20 _ HCu.out (by omega) (by omega) (by omega)).mono ?_
      rintro e w4 ⟨t, rfl, hc4, hg4⟩
      have O4 := hide (HO.out.grown hg4 hbw)
      have C4 := hide hc4
      have G4 := hide (grown_trans HGr.out hg4)
      clear hc4 hg4 HO HCu HGr
      cases t with
      | false =>
        go_wp2
        go_ret
        exact ⟨k, _, rfl, ⟨by omega, by omega⟩, O4.out, C4.out.mono (by omega), G4.out⟩
      | true =>
        have SA := hide (lit_row w4 #[.int .i64 (-1), .int .i64 40, .int .i64 41] [-1, 40, 41] rfl)
        have CA := hide (C4.out.alloc (.cells #[.int .i64 (-1), .int .i64 40, .int .i64 41] 3))
        have hbw4 := C4.out.lt
        go_wp2_with fail
        refine (among_any b _ w4.heap.size 3 3 [-1, 40, 41] _ CA.out (by omega) rfl (by omega) (by omega) (by omega) SA.out).mono ?_
        rintro e w5 ⟨i5, hi5, rfl, hc5, hg5⟩
        obtain ⟨z, hz⟩ : ∃ z, z = [(-1 : Int), 40, 41].getD i5 0 := ⟨_, rfl⟩
        rw [← hz]
        have hg45 := grown_trans (World.grownBy_alloc w4 (.cells #[.int .i64 (-1), .int .i64 40, .int .i64 41] 3) (some b)) hg5
        have O5 := hide (O4.out.grown hg45 hbw)
        have C5 := hide hc5
        have G5 := hide (grown_trans G4.out hg45)
        obtain ⟨xs, hxl, hox⟩ := O5.out
        obtain ⟨g, hlae⟩ : ∃ g, la = some ⟨g, 0, none⟩ := by
          rcases hox.2 with ⟨_, h0⟩ | ⟨g, cap, cur, hv, _⟩
          · omega
          · exact ⟨g, by simp at hv; exact hv.1⟩
        subst hlae
        have hgb := (hox.lt g rfl).1
        have hcl := hox.cellAt 0 (by omega)
        have hfr := hox.frozenAt 0
        obtain ⟨u, hu⟩ : ∃ u, w5.cell? ⟨g, 0, none⟩ = some u := ⟨_, hcl.trans (List.getElem?_eq_getElem (by simp; omega))⟩
        have hkI : (0 : Int) < (k : Int) := by omega
        have hst := (hox.stored 0 (.int .i64 z)).1
        have O7 : Hid (OwnC (w5.setCell ⟨g, 0, none⟩ (.int .i64 z)) w.heap.size (.slice (some ⟨g, 0, none⟩) k lcap) k) := hide ⟨xs.set 0 z, by simpa using hxl, by rw [List.map_set]; exact hst⟩
        have C7 : Hid (Cur (w5.setCell ⟨g, 0, none⟩ (.int .i64 z)) b (N + 100)) := hide ((C5.out.kept (fun q hq => Below.heap_setCell w5 ⟨g, 0, none⟩ _ q (show q ≠ g by omega))).mono (by omega))
        have G7 : Hid (w.grownBy (w5.setCell ⟨g, 0, none⟩ (.int .i64 z)) (some b)) := hide ⟨G5.out.os, G5.out.tape, G5.out.output, by simpa using G5.out.size, fun q hq hn => (Below.heap_setCell w5 ⟨g, 0, none⟩ _ q (show q ≠ g by omega)).trans (G5.out.block q hq hn)⟩
        clear hz hc5 hg5 hg45 hox hxl hcl hst O5 C5 G5 O4 C4 G4
        go_wp2
        go_ret
        exact ⟨k, _, rfl, ⟨by omega, by omega⟩, O7.out, C7.out, G7.out⟩
end Go.Proofs.Ytkfnejiiancmhad.L11

namespace Go.Proofs.Ytkfnejiiancmhad.L11
open Go.RowKit L1 L4
set_option linter.unusedVariables false

theorem own_mtC (w : World) (base : Nat) (h : base ≤ w.heap.size) : (w.alloc (.cells #[] 3)).ownsRow base 3 1 (.slice (some ⟨w.heap.size, 0, none⟩) 0 0) 0 [] :=
  ⟨rfl, .inr ⟨w.heap.size, 0, #[], rfl, h, by show (w.heap.push _)[w.heap.size]? = _; exact Array.getElem?_push_size, Nat.le_refl _, by unfold maxLen; omega, rfl, rfl⟩⟩
set_option maxRecDepth 100000 in
set_option maxHeartbeats 4000000 in
theorem drawLess_any (a : Option Addr) (n cap : Nat) (w : World) (h : Slb w w.heap.size a n) (hn : n ≤ 1048576) :
    Calls Try.prog 41 #[.slice a n cap] w fun e w' => ∃ (k m : Nat) (v u : Value), e = .returned (.tuple #[v, u]) ∧ k ≤ 4 ∧ m ≤ 4 ∧ OwnC w' w.heap.size v k ∧ OwnC w' w.heap.size u m ∧ Below w.heap.size w w' := by
  have HC := hide (cur_new (cap := cap) h hn)
  clear h
  have hsz0 : (w.alloc (Obj.cells #[.slice a n cap, .int .i64 0, .int .u64 0] 89)).heap.size = w.heap.size + 1 := by simp
  obtain ⟨i1, hi1, hy0, hy1, hy2⟩ := info_parts info_int
  go_enter Try.func41, Try.ntmps41
  go_wp2_with fail
  refine (clock_any _ 0 _ HC.out (by omega)).mono ?_
  rintro e w1 ⟨k, v, rfl, hk, hT1, hc1, hg1⟩
  rw [hsz0] at hT1
  have T1 := hide hT1
  have C1 := hide hc1
  have G1 := hide hg1
  obtain ⟨la, lcap, hlv⟩ := hT1.shape
  subst hlv
  clear hT1 hc1 hg1
  go_wp2_with fail
  refine (one_any _ _ 4 _ C1.out (by omega) (by omega) (by omega)).mono ?_
  rintro e w2 ⟨t, rfl, hc2, hg2⟩
  have T2 := hide (T1.out.grown hg2 (by omega))
  have C2 := hide hc2
  have G2 := hide (grown_trans G1.out hg2)
  have B2 := hide (grown_to_below G2.out)
  have hsz2 := B2.out.size
  clear hc2 hg2
  cases t with
  | true =>
    obtain ⟨xs, hxl, hox⟩ := T2.out
    have HOX := hide hox
    obtain ⟨g, hlae⟩ : ∃ g, la = some ⟨g, 0, none⟩ := by
      rcases hox.2 with ⟨_, h0⟩ | ⟨g, cap, cur, hv, _⟩
      · omega
      · exact ⟨g, by simp at hv; exact hv.1⟩
    subst hlae
    have hnews : ∀ j u, (xs.map (Value.int .i64))[j]? = some u → (w2.alloc (.cells #[] 3)).cell? ((⟨g, 0, none⟩ : Addr).add j) = some u := fun j u hu => (own_belowT hox ((Below.refl _ _).alloc (Nat.le_refl _) _)).cells (g := g) rfl j u hu
    have HNW := hide hnews
    clear hnews hox
    go_wp2_with (first
      | (at_builtin; refine wpList_append_own_at _ rfl _ _ 27 rfl w.heap.size 3 i1 (.int .i64 0) 1 8 Try.underlying27 hi1 hy0 hy1 hy2 rfl (by decide) _ _ _ rfl (own_mtC w2 w.heap.size hsz2) ⟨g, 0, none⟩ k lcap (xs.map (Value.int .i64)) rfl (by simp [hxl]) HNW.out (by intro u hu; simp at hu; obtain ⟨q, _, rfl⟩ := hu; rfl) (by unfold maxLen; omega) (by omega) (by simp; omega) ?_)
      | go_in)
    intro v6 w6 hown6 hgrow6 _ _
    have hal : Below w2.heap.size w2 (w2.alloc (.cells #[] 3)) := (Below.refl _ _).alloc (Nat.le_refl _) _
    have hgl := (HOX.out.lt g rfl).2
    have O6 : Hid (OwnC w6 w.heap.size v6 k) := hide ⟨xs, hxl, by simpa using hown6⟩
    have O7 : Hid (OwnC w6 w.heap.size (.slice (some ⟨g, 0, none⟩) k lcap) k) := hide ⟨xs, hxl, own_baseT ((own_belowT HOX.out hal).kept hgrow6 (.inr (by simp [Value.ownBlock]; omega))) (Nat.le_succ _)⟩
    have B6 : Hid (Below w.heap.size w w6) := hide ((B2.out.trans (hal.mono B2.out.size)).grown hgrow6 (by simp; omega) (fun q hq => by simp [Value.ownBlock] at hq; omega))
    clear hown6 hgrow6 hal
    go_wp2
    go_ret2
    exact ⟨k, k, _, _, rfl, hk.2, hk.2, O7.out, O6.out, B6.out⟩
  | false =>
    go_wp2_with fail
    refine (clock_any _ _ _ C2.out (by omega)).mono ?_
    rintro e w3 ⟨m, u, rfl, hm, hT3, hc3, hg3⟩
    have O3 := hide ((T2.out.grown hg3 (by omega)).base (Nat.le_succ _))
    have P3 := hide (hT3.base hsz2)
    have B3 := hide (grown_to_below (grown_trans G2.out hg3))
    clear hT3 hc3 hg3
    go_wp2
    go_ret2
    exact ⟨k, m, _, _, rfl, hk.2, hm.2, O3.out, P3.out, B3.out⟩
end Go.Proofs.Ytkfnejiiancmhad.L11

namespace Go.Proofs.Ytkfnejiiancmhad.L11
open Go.RowKit L1 L4
set_option linter.unusedVariables false

set_option maxRecDepth 100000 in
set_option maxHeartbeats 4000000 in
theorem drawCut_any (a : Option Addr) (n cap : Nat) (w : World) (h : Slb w w.heap.size a n) (hn : n ≤ 1048576) :
    Calls Try.prog 43 #[.slice a n cap] w fun e w' => ∃ (nn : Int) (k : Nat) (v : Value) (x : Int), e = .returned (.tuple #[.int .i64 nn, v, .int .i64 x]) ∧ (1 ≤ nn ∧ nn ≤ 4) ∧ k ≤ 41 ∧ OwnEv w' w.heap.size v k ∧ (-1 ≤ x ∧ x ≤ 65535) ∧ Below w.heap.size w w' := by
  have HC := hide (cur_new (cap := cap) h hn)
  clear h
  have hsz0 : (w.alloc (Obj.cells #[.slice a n cap, .int .i64 0, .int .u64 0] 89)).heap.size = w.heap.size + 1 := by simp
  go_enter Try.func43, Try.ntmps43
  go_wp2_with fail
  refine (events_any _ 0 _ HC.out (by omega)).mono ?_
  rintro e w1 ⟨nn, k, v, rfl, hnb, hk, hT1, hc1, hg1⟩
  rw [hsz0] at hT1
  have T1 := hide hT1
  have C1 := hide hc1
  have G1 := hide hg1
  obtain ⟨la, lcap, hlv⟩ := hT1.shape
  subst hlv
  clear hT1 hc1 hg1
  go_wp2_with fail
  refine (pick_any _ _ ((k : Int) + 2) _ C1.out (by omega) (by omega) (by omega)).mono ?_
  rintro e w3 ⟨x3, rfl, hx3, hx3', _, hc3, hg3⟩
  have T3 : Hid (OwnEv w3 w.heap.size (.slice la k lcap) k) := hide (by
    obtain ⟨xs, hl, ho⟩ := T1.out.grown hg3 (by omega)
    exact ⟨xs, hl, own_baseT ho (Nat.le_succ _)⟩)
  have B3 := hide (grown_to_below (grown_trans G1.out hg3))
  clear hc3 hg3
  go_wp2
  go_ret3
  exact ⟨nn, k, _, x3 - 1, rfl, hnb, hk, T3.out, ⟨by omega, by omega⟩, B3.out⟩
set_option maxRecDepth 100000 in
set_option maxHeartbeats 4000000 in
theorem drawIsCut_any (a : Option Addr) (n cap : Nat) (w : World) (h : Slb w w.heap.size a n) (hn : n ≤ 1048576) :
    Calls Try.prog 49 #[.slice a n cap] w fun e w' => ∃ (nn : Int) (k m : Nat) (v u : Value), e = .returned (.tuple #[.int .i64 nn, v, u]) ∧ (1 ≤ nn ∧ nn ≤ 4) ∧ k ≤ 41 ∧ m ≤ 4 ∧ OwnEv w' w.heap.size v k ∧ OwnC w' w.heap.size u m ∧ Below w.heap.size w w' := by
  have HC := hide (cur_new (cap := cap) h hn)
  clear h
  obtain ⟨i1, hi1, hy0, hy1, hy2⟩ := info_parts info_int
  have hsz0 : (w.alloc (Obj.cells #[.slice a n cap, .int .i64 0, .int .u64 0] 89)).heap.size = w.heap.size + 1 := by simp
  go_enter Try.func49, Try.ntmps49
  go_wp2_with fail
  refine (events_any _ 0 _ HC.out (by omega)).mono ?_
  rintro e w1 ⟨nn, k, v, rfl, hnb, hk, hT1, hc1, hg1⟩
  rw [hsz0] at hT1
  have T1 := hide hT1
  have C1 := hide hc1
  have G1 := hide hg1
  obtain ⟨la, lcap, hlv⟩ := hT1.shape
  subst hlv
  obtain ⟨m, hm⟩ : ∃ m : Nat, nn = (m : Int) := ⟨nn.toNat, by omega⟩
  subst hm
  clear hT1 hc1 hg1
  go_wp2
  go_loopw [8, 9] (fun lv kv wr => ∃ j : Nat, j ≤ m ∧ kv = .int .i64 j ∧ Hid (OwnC wr (w.heap.size + 1) lv j) ∧ Hid (OwnEv wr (w.heap.size + 1) (.slice la k lcap) k) ∧ Hid (Cur wr w.heap.size (1000 + 2 * j)) ∧ Hid ((w.alloc (Obj.cells #[.slice a n cap, .int .i64 0, .int .u64 0] 89)).grownBy wr (some w.heap.size)) ∧ Hid (∀ q, (Value.slice la k lcap).ownBlock = some q → lv.ownBlock ≠ some q)) (fun _ kv _ => m - (intOf kv).toNat)
  case atStart => exact ⟨0, Nat.zero_le _, rfl, ⟨[], rfl, World.ownsRow_nil _ _ _ _⟩, T1, C1.out.mono (by omega), G1, fun q hq e => by cases e⟩
  case round =>
    obtain ⟨j, hj, rfl, HO, HT, HCu, HGr, HNE⟩ := hrel
    obtain ⟨xa, xcap, hlv⟩ := HO.out.shape
    subst hlv
    by_cases hlt : j < m
    · have hltI : (j : Int) < (m : Int) := by omega
      go_wp2_with fail
      refine (pick_any _ _ 4 _ HCu.out (by omega) (by omega) (by omega)).mono ?_
      rintro e w5 ⟨z, rfl, hz0, _, _, hc5, hg5⟩
      have O5 := hide (HO.out.grown hg5 (by omega))
      have T5 := hide (HT.out.grown hg5 (by omega))
      have C5 := hide hc5
      have G5 := hide (grown_trans HGr.out hg5)
      obtain ⟨xs, hxl, hox⟩ := O5.out
      have HOX := hide hox
      have hsz5 := G5.out.size
      rw [hsz0] at hsz5
      clear hc5 hg5 HO HCu HGr HT hox
      go_wp2_with (first
        | (at_builtin; refine wpList_append_own_at _ rfl _ _ 27 rfl (w.heap.size + 1) 3 i1 (.int .i64 0) 1 8 Try.underlying27 hi1 hy0 hy1 hy2 rfl (by decide) _ _ _ rfl (HOX.out.alloc _) ⟨w5.heap.size, 0, none⟩ 1 1 [.int .i64 z] rfl rfl (cell_oneC _ _ rfl _ _) (by intro u hu; simp at hu; subst hu; rfl) (by unfold maxLen; omega) (by omega) (by simp; omega) ?_)
        | go_in)
      intro v6 w6 hown6 hgrow6 _ hat6
      have hal : Below w5.heap.size w5 (w5.alloc (.cells #[.int .i64 z] 3)) := (Below.refl _ _).alloc (Nat.le_refl _) _
      have hrr : ∀ q, (Value.slice xa j xcap).ownBlock = some q → w.heap.size + 1 ≤ q := fun q hq => (HOX.out.lt q hq).1
      have G6 := hide (grown_appC G5.out hal hgrow6 (fun q hq => by rw [hsz0]; exact hrr q hq))
      have O6 : Hid (OwnC w6 (w.heap.size + 1) v6 (j + 1)) := hide ⟨xs ++ [z], by simp [hxl], by rw [List.map_append]; exact hown6⟩
      have C6 : Hid (Cur w6 w.heap.size (1000 + 2 * (j + 1))) := hide ((C5.out.kept (fun q hq => (hgrow6.block q (by have := C5.out.lt; simp; omega) (fun e => by have := hrr q e.symm; omega)).trans (hal.block q (by have := C5.out.lt; omega)))).mono (by omega))
      have T6 : Hid (OwnEv w6 (w.heap.size + 1) (.slice la k lcap) k) := hide (by
        obtain ⟨es, hel, heo⟩ := T5.out
        refine ⟨es, hel, (own_belowT heo hal).kept hgrow6 ?_⟩
        cases h9 : (Value.slice la k lcap).ownBlock with
        | none => exact .inl rfl
        | some q => exact .inr (fun e => HNE.out q h9 e.symm))
      have N6 : Hid (∀ q, (Value.slice la k lcap).ownBlock = some q → v6.ownBlock ≠ some q) := hide (fun q hq e => by
        rcases hat6 with h1 | h1
        · exact HNE.out q hq (by rw [← h1]; exact e)
        · rw [h1] at e
          have e2 : (w5.alloc (.cells #[.int .i64 z] 3)).heap.size = q := by simpa using e
          obtain ⟨es, hel, heo⟩ := T5.out
          have := (heo.lt q hq).2
          simp at e2
          omega)
      clear hown6 hgrow6 hal hrr hat6 O5 C5 G5 T5 HOX HNE hxl
      go_wp2
      go_roundw
      case rel => exact ⟨j + 1, by omega, by go_num, O6, T6, C6, G6, N6⟩
      case measure => simp [intOf]; omega
    · obtain rfl : j = m := by omega
      have hltI : ¬ (j : Int) < (j : Int) := by omega
      have O9 := hide (HO.out.base (Nat.le_succ w.heap.size))
      have T9 : Hid (OwnEv wr w.heap.size (.slice la k lcap) k) := hide (by
        obtain ⟨es, hel, heo⟩ := HT.out
        exact ⟨es, hel, own_baseT heo (Nat.le_succ _)⟩)
      have B9 := hide (grown_to_below HGr.out)
      clear HO HT HCu HGr HNE
      go_wp2
      go_ret3
      exact ⟨_, k, j, _, _, rfl, hnb, hk, by omega, T9.out, O9.out, B9.out⟩
set_option maxRecDepth 100000 in
set_option maxHeartbeats 4000000 in
theorem drawJoin_any (a : Option Addr) (n cap : Nat) (w : World) (h : Slb w w.heap.size a n) (hn : n ≤ 1048576) :
    Calls Try.prog 51 #[.slice a n cap] w fun e w' => ∃ (k m : Nat) (v u : Value), e = .returned (.tuple #[v, u]) ∧ k ≤ 4 ∧ m ≤ 4 ∧ OwnC w' w.heap.size v k ∧ OwnC w' w.heap.size u m ∧ Below w.heap.size w w' := by
  have H := hide h
  clear h
  go_enter Try.func51, Try.ntmps51
  go_wp2_with fail
  refine (drawLess_any a n cap w H.out hn).mono ?_
  rintro e w1 ⟨k, m, v, u, rfl, hk, hm, h1, h2, hb⟩
  have H1 := hide h1
  have H2 := hide h2
  have HB := hide hb
  clear h1 h2 hb
  go_wp2
  go_ret2
  exact ⟨k, m, v, u, rfl, hk, hm, H1.out, H2.out, HB.out⟩
end Go.Proofs.Ytkfnejiiancmhad.L11

namespace Go.Proofs.Ytkfnejiiancmhad.L1
open Go.RowKit
set_option linter.unusedVariables false

set_option maxRecDepth 100000 in
set_option maxHeartbeats 1000000 in
theorem numberOf_any (a : Option Addr) (n cap : Nat) (w : World) (h : Slb w w.heap.size a n) (hn : n ≤ 1048576) :
    Calls Try.prog 47 #[.slice a n cap] w fun e w' => (∃ x : Int, e = .returned (.int .i64 x) ∧ 0 ≤ x ∧ x < 1000003) ∧ w = w' := by
  have HS := hide h
  clear h
  go_enter Try.func47, Try.ntmps47
  go_wp2
  go_loop [3, 8] (fun m i => ∃ (k : Nat) (x : Int), k ≤ n ∧ i = .int .i64 k ∧ m = .int .i64 x ∧ 0 ≤ x ∧ x < 1000003) (fun _ i => n - (intOf i).toNat)
  case atStart => exact ⟨0, 0, Nat.zero_le _, rfl, rfl, by omega, by omega⟩
  case round =>
    obtain ⟨k, x, hk, rfl, rfl, hx0, hx1⟩ := hrel
    by_cases hlt : k < n
    · obtain ⟨bb, off, y, rfl, hbb, hc, hy0, hy1⟩ := HS.out k hlt
      have hltI : (k : Int) < (n : Int) := by omega
      have hq : Int.tmod (31 * x + y) 1000003 = (31 * x + y) % 1000003 := Int.tmod_eq_emod_of_nonneg (by omega)
      obtain ⟨z, hz⟩ : ∃ z, z = (31 * x + y) % 1000003 := ⟨_, rfl⟩
      have hz0 : 0 ≤ z ∧ z < 1000003 := by omega
      rw [← hz] at hq
      clear hz
      go_wp2
      go_round
      case rel => exact ⟨k + 1, z, by omega, by go_num, rfl, hz0.1, hz0.2⟩
      case measure => simp [intOf]; omega
    · have hltI : ¬ (k : Int) < (n : Int) := by omega
      go_wp2
      go_ret
      exact ⟨⟨x, rfl, hx0, hx1⟩, rfl⟩
end Go.Proofs.Ytkfnejiiancmhad.L1
