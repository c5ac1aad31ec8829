/-
  Contract: impl.PlayRepl.
  Copies of rows in a region that draws its order, and what lies there between. Nothing of the program's text is proved here but closed facts on its types.
  Contract: spec.l9Own.
  What a step of the model leaves: lemmas on worlds of logs. Nothing of the program's text is proved here.
  Contract: spec.l7Last.
  Contract: spec.l9Do, steps of kind 1.
  Contract: spec.l7Starts tells the starts of entries, in new memory.
  Contract: spec.l7End tells how many entries have an Epoch or a lesser one.
-/
import Derived.Test.YthmekhhfihjclbdBundle8
import Derived.Deep.AppendLies
import Derived.Deep.RegionHeld3
import Derived.Test.YthmekhhfihjclbdBundle4
import Derived.Deep.DeepCutAuto
import Derived.Test.YthmekhhfihjclbdBundle5
import Derived.Test.YthmekhhfihjclbdBundle2
import Derived.Deep.QuietTactic
import Derived.BigQuiet
import Derived.Test.YthmekhhfihjclbdBundle1
namespace Go.Proofs.Ythmekhhfihjclbd.L9
open Go.RowKit L1 L7
set_option linter.unusedVariables false

/-- Behind some steps. -/
structure PlI (w : World) (b : Nat) (r0 : Rm) (ss : List Stp) (j : Nat) (da : Option Addr) (dc : Nat) (S : Nat → Prop) (wr : World) : Prop where
  own : wr.ownsRow w.heap.size 4 1 (.slice da j dc) j ((plK r0 ss j).2.map Value.bool)
  far : ∀ q, (Value.slice da j dc).ownBlock = some q → ¬ S q
  box : RB wr S b (plK r0 ss j).1
  lo : ∀ q, S q → w.heap.size < q ∧ q < wr.heap.size
  res : wr.heap[w.heap.size]? = some zR
  bel : Below w.heap.size w wr
theorem plK_yes {r : Rm} {ss : List Stp} {j : Nat} {x : Rm} (h : stepM (plK r ss j).1 (ss.getD j eT) = some x) : plK r ss (j + 1) = (x, (plK r ss j).2 ++ [true]) := by
  show (match stepM (plK r ss j).1 (ss.getD j (0, 0, ByteArray.empty)) with
    | some x => (x, (plK r ss j).2 ++ [true])
    | none => ((plK r ss j).1, (plK r ss j).2 ++ [false])) = _
  rw [show stepM (plK r ss j).1 (ss.getD j (0, 0, ByteArray.empty)) = some x from h]
theorem plK_no {r : Rm} {ss : List Stp} {j : Nat} (h : stepM (plK r ss j).1 (ss.getD j eT) = none) : plK r ss (j + 1) = ((plK r ss j).1, (plK r ss j).2 ++ [false]) := by
  show (match stepM (plK r ss j).1 (ss.getD j (0, 0, ByteArray.empty)) with
    | some x => (x, (plK r ss j).2 ++ [true])
    | none => ((plK r ss j).1, (plK r ss j).2 ++ [false])) = _
  rw [show stepM (plK r ss j).1 (ss.getD j (0, 0, ByteArray.empty)) = none from h]
theorem plK_step {r : Rm} {ss : List Stp} {j : Nat} {o : Option Rm} (h : o = stepM (plK r ss j).1 (ss.getD j eT)) : plK r ss (j + 1) = (o.getD (plK r ss j).1, (plK r ss j).2 ++ [o.isSome]) := by
  cases o with
  | none => rw [plK_no h.symm]; rfl
  | some x => rw [plK_yes h.symm]; rfl
theorem PlI.next {w : World} {b : Nat} {r0 : Rm} {ss : List Stp} {j : Nat} {da : Option Addr} {dc : Nat} {S : Nat → Prop} {wr w1 w2 w6 : World} {o : Option Rm} {v6 : Value} {ob : Obj} (h : PlI w b r0 ss j da dc S wr) (ho : o = stepM (plK r0 ss j).1 (ss.getD j eT)) (h1 : Below wr.heap.size wr w1) (hD : Done S w1 b (o.getD (plK r0 ss j).1) w2)
    (hown : w6.ownsRow w.heap.size 4 1 v6 (j + 1) ((plK r0 ss j).2.map Value.bool ++ [.bool o.isSome])) (hg : (w2.alloc ob).grownBy w6 (Value.slice da j dc).ownBlock) (hb : v6.ownBlock = (Value.slice da j dc).ownBlock ∨ v6.ownBlock = some (w2.alloc ob).heap.size) :
    ∃ da' dc' S', v6 = .slice da' (j + 1) dc' ∧ PlI w b r0 ss (j + 1) da' dc' S' w6 := by
  obtain ⟨a6, c6, rfl⟩ : ∃ a c, v6 = .slice a (j + 1) c := by
    rcases hown.2 with ⟨_, h0⟩ | ⟨g, cap, cur, hv, _⟩
    · omega
    · exact ⟨_, cap, hv⟩
  have hs1 := h1.size
  have hs2 := hD.2.size
  have hs3 : (w2.alloc ob).heap.size = w2.heap.size + 1 := by simp
  have hs6 := hg.size
  have hlo : ∀ q, S q → q < w1.heap.size := fun q hq => by have := (h.lo q hq).2; omega
  have hgl : ∀ q, Grow S w1 w2 q → w.heap.size < q ∧ q < w2.heap.size := fun q hq => by
    rcases hq with hq | hq
    · have := h.lo q hq; omega
    · have h5 := (Array.getElem?_eq_some_iff.1 h.res).1; omega
  have hold : ∀ q, (Value.slice da j dc).ownBlock = some q → q < wr.heap.size ∧ ¬ Grow S w1 w2 q := fun q hq => by
    have h2 := own_lt9 h.own q hq
    refine ⟨h2, fun hg => ?_⟩
    rcases hg with hg | hg
    · exact h.far q hq hg
    · omega
  have blk : ∀ q, q < w2.heap.size → (Value.slice da j dc).ownBlock ≠ some q → w6.heap[q]? = w2.heap[q]? := fun q hq hn => by
    have h5 := hg.block q (by omega) (fun e => hn e.symm)
    rw [h5]
    exact ((Below.refl w2.heap.size w2).alloc (Nat.le_refl _) ob).block q hq
  have nS : ¬ S w.heap.size := fun hs => by have := (h.lo _ hs).1; omega
  have nD : (Value.slice da j dc).ownBlock ≠ some w.heap.size ∨ True := .inr trivial
  have hres1 : w2.heap[w.heap.size]? = some zR := (hD.2.block _ (by have h5 := (Array.getElem?_eq_some_iff.1 h.res).1; omega) nS).trans ((h1.block _ (Array.getElem?_eq_some_iff.1 h.res).1).trans h.res)
  have hdz : (Value.slice da j dc).ownBlock ≠ some w.heap.size := fun e => by
    rcases h.own.2 with ⟨hv, _⟩ | ⟨g, cap, cur, hv, _, hh, _⟩
    · rw [hv] at e; cases e
    · rw [hv] at e
      have e' : g = w.heap.size := Option.some.inj e
      rw [e', h.res] at hh
      cases hh
  refine ⟨a6, c6, Grow S w1 w2, rfl, ⟨?_, fun q hq hgq => ?_, ?_, fun q hq => ?_, ?_, ?_⟩⟩
  · rw [plK_step ho, List.map_append]
    exact hown
  · rcases hb with e | e
    · rw [hq] at e
      exact (hold q e.symm).2 hgq
    · rw [hq] at e
      cases e
      have := (hgl _ hgq).2
      omega
  · rw [plK_step ho]
    exact hD.1.at fun q hq hlt => blk q hlt (fun e => (hold q e).2 hq)
  · have := hgl q hq; omega
  · exact (blk _ (Array.getElem?_eq_some_iff.1 hres1).1 hdz).trans hres1
  · have hk : Below w.heap.size w w2 := by
      refine ⟨hD.2.os.trans (h1.os.trans h.bel.os), hD.2.tape.trans (h1.tape.trans h.bel.tape), hD.2.output.trans (h1.output.trans h.bel.output), by have := h.bel.size; omega, fun q hq => ?_⟩
      have hq2 := h.bel.size
      exact (hD.2.block q (by omega) (fun hs => by have := (h.lo q hs).1; omega)).trans ((h1.block q (by omega)).trans (h.bel.block q hq))
    have hk2 := hk.alloc (by have := hk.size; omega) ob
    exact ⟨hg.os.trans hk2.os, hg.tape.trans hk2.tape, hg.output.trans hk2.output, by have := hk2.size; omega, fun q hq => (hg.block q (by have := hk2.size; omega) (fun e => by have := own_ge h.own q e.symm; omega)).trans (hk2.block q hq)⟩
/-- The six cells of the answer are written. -/
theorem six_blk {w : World} {z q : Nat} (v0 v1 v2 v3 v4 v5 : Value) (h : q ≠ z) : ((((((w.setCell ⟨z, 0, none⟩ v0).setCell ⟨z, 1, none⟩ v1).setCell ⟨z, 2, none⟩ v2).setCell ⟨z, 3, none⟩ v3).setCell ⟨z, 4, none⟩ v4).setCell ⟨z, 5, none⟩ v5).heap[q]? = w.heap[q]? := by
  rw [Below.heap_setCell _ _ _ _ h, Below.heap_setCell _ _ _ _ h, Below.heap_setCell _ _ _ _ h, Below.heap_setCell _ _ _ _ h, Below.heap_setCell _ _ _ _ h, Below.heap_setCell _ _ _ _ h]
theorem six_bel {N : Nat} {w w' : World} {z : Nat} (v0 v1 v2 v3 v4 v5 : Value) (h : Below N w w') (hz : N ≤ z) : Below N w ((((((w'.setCell ⟨z, 0, none⟩ v0).setCell ⟨z, 1, none⟩ v1).setCell ⟨z, 2, none⟩ v2).setCell ⟨z, 3, none⟩ v3).setCell ⟨z, 4, none⟩ v4).setCell ⟨z, 5, none⟩ v5) :=
  (((((h.setCell (p := ⟨z, 0, none⟩) hz _).setCell (p := ⟨z, 1, none⟩) hz _).setCell (p := ⟨z, 2, none⟩) hz _).setCell (p := ⟨z, 3, none⟩) hz _).setCell (p := ⟨z, 4, none⟩) hz _).setCell (p := ⟨z, 5, none⟩) hz _
theorem plI_start {w w1 w2 : World} {r0 : Rm} {ss : List Stp} {V : List Value} {vg vd vy : Value} (h1 : Below w.heap.size w w1) (hz : w1.heap.size = w.heap.size + 1) (hr : w1.heap[w.heap.size]? = some zR) (h2 : Below w1.heap.size w1 w2) (hW : RW w2 (fun q => w1.heap.size ≤ q ∧ q < w2.heap.size) V vg vd vy nilV r0) :
    ∃ S, PlI w w2.heap.size r0 ss 0 none 0 S (w2.alloc (rbO vg vd r0.ld r0.ep vy nilV)) := by
  have hs2 := h2.size
  have hs3 : (w2.alloc (rbO vg vd r0.ld r0.ep vy nilV)).heap.size = w2.heap.size + 1 := by simp
  refine ⟨fun q => w1.heap.size ≤ q ∧ q < w2.heap.size + 1, ⟨World.ownsRow_nil _ _ _ _, fun q hq => (by cases hq), ⟨V, vg, vd, vy, nilV, blk_new9 _ _, ?_, ⟨by omega, by omega⟩⟩, fun q hq => by omega, ?_, ?_⟩⟩
  · exact (hW.mono (fun q hq => ⟨hq.1, by omega⟩)).below ((Below.refl _ _).alloc (Nat.le_refl _) _)
  · exact (((Below.refl w2.heap.size w2).alloc (Nat.le_refl _) _).block _ (by omega)).trans ((h2.block _ (by omega)).trans hr)
  · have := h1.trans (h2.mono (by omega))
    exact this.alloc (by omega) _
theorem PlI.didAt {w : World} {b : Nat} {r0 : Rm} {ss : List Stp} {j : Nat} {da : Option Addr} {dc : Nat} {S : Nat → Prop} {wr w1 w2 : World} {r' : Rm} (h : PlI w b r0 ss j da dc S wr) (h1 : Below wr.heap.size wr w1) (hD : Done S w1 b r' w2) (ob : Obj) : (w2.alloc ob).ownsRow w.heap.size 4 1 (.slice da j dc) j ((plK r0 ss j).2.map Value.bool) :=
  own_at h.own fun q hq => by
    have h2 := own_lt9 h.own q hq
    have hs1 := h1.size
    have hs2 := hD.2.size
    exact (((Below.refl w2.heap.size w2).alloc (Nat.le_refl _) ob).block q (by omega)).trans ((hD.2.block q (by omega) (h.far q hq)).trans (h1.block q h2))
theorem PlI.out {w : World} {b : Nat} {r0 : Rm} {ss : List Stp} {n : Nat} {da : Option Addr} {dc : Nat} {S : Nat → Prop} {wr : World} {V : List Value} {ag ad ay ac : Option Addr} {cg cd cy cc : Nat} {R : Rm} {D : List Bool} (h : PlI w b r0 ss n da dc S wr) (hR : R = (plK r0 ss n).1) (hD : D = (plK r0 ss n).2) (hW : RW wr S V (.slice ag R.G.length cg) (.slice ad R.dn.length cd) (.slice ay R.sy.length cy) (.slice ac R.ce.length cc) R) (v0 v1 v2 v3 v4 v5 : Value) (e : Ending) (he : e = .returned (.tuple #[rpV ag R.G.length cg ad R.dn.length cd R.ld R.ep ay R.sy.length cy ac R.ce.length cc, .slice da n dc, .bool true])) :
    PlRet w R D true e ((((((wr.setCell ⟨w.heap.size, 0, none⟩ v0).setCell ⟨w.heap.size, 1, none⟩ v1).setCell ⟨w.heap.size, 2, none⟩ v2).setCell ⟨w.heap.size, 3, none⟩ v3).setCell ⟨w.heap.size, 4, none⟩ v4).setCell ⟨w.heap.size, 5, none⟩ v5) := by
  have hDl : D.length = n := by rw [hD, plK_len]
  refine ⟨V, ag, cg, ad, cd, ay, cy, ac, cc, da, dc, S, by rw [he, hDl], hW.at fun q hq _ => six_blk _ _ _ _ _ _ (by have := (h.lo q hq).1; omega), ?_, fun q hq => h.far q (by rw [hDl] at hq; exact hq), fun q hq => Nat.le_of_lt (h.lo q hq).1, six_bel _ _ _ _ _ _ h.bel (Nat.le_refl _)⟩
  rw [hDl, hD]
  refine own_at h.own fun q hq => six_blk _ _ _ _ _ _ (fun e => ?_)
  rcases h.own.2 with ⟨hv, _⟩ | ⟨g, cap, cur, hv, _, hh, _⟩
  · rw [hv] at hq; cases hq
  · rw [hv] at hq
    have e' : g = q := Option.some.inj hq
    rw [e', e, h.res] at hh
    cases hh
set_option maxRecDepth 100000 in
set_option maxHeartbeats 4000000 in
theorem implPlay_any (k : Int) (a : Option Addr) (ss : List Stp) (n cap : Nat) (w : World) (hn : ss.length = n) (hs : SlT w a ss) (hn2 : n ≤ 1048576) (htx : TxT ss) (R : Rm) (D : List Bool) (ok : Bool) (hv : PlIs k ss R D ok) :
    Calls Try.prog 29 #[.int .i64 k, .slice a n cap] w fun e w' => PlRet w R D ok e w' := by
  have ZP := blk_new9 w zR
  have ZB := (Below.refl w.heap.size w).alloc (Nat.le_refl _) zR
  obtain ⟨w1, hw1⟩ : ∃ w1, w1 = w.alloc zR := ⟨_, rfl⟩
  have HW1 := hide hw1
  rw [← hw1] at ZP ZB
  have hsz1 : w1.heap.size = w.heap.size + 1 := by rw [hw1]; simp
  clear hw1
  have HSZ1 := hide hsz1
  have ZBF := hide ZB
  have ZPF := hide ZP
  by_cases hk : 1 ≤ k ∧ k ≤ 5
  · obtain ⟨m, hm⟩ : ∃ m : Nat, (m : Int) = k := ⟨k.toNat, by omega⟩
    subst hm
    have CN := hide (implNew_any (m : Int) w1 m 1 true (fun _ => ⟨rfl, rfl, rfl⟩) (fun h => absurd hk h))
    by_cases h120 : n ≤ 120
    · have h120I : ¬ 120 < (n : Int) := by omega
      obtain ⟨e1, e2, e3⟩ := hv.yes ⟨hk, by omega⟩
      rw [Int.toNat_natCast, hn] at e1 e2
      subst e3
      obtain ⟨r0, hr0⟩ : ∃ r0, r0 = newM m := ⟨_, rfl⟩
      have hI0 : Inv r0 := by rw [hr0]; exact newM_inv m (by omega) (by omega)
      have HI0 := hide hI0
      have HR0 := hide hr0
      rw [← hr0] at e1 e2
      have HE1 := hide e1
      have HE2 := hide e2
      have HN := hide hn
      have HS := hide hs
      have HTX := hide htx
      clear hv e1 e2 hn hs htx hr0 hI0 hsz1 ZB ZP
      go_enter Try.func29, Try.ntmps29
      go_upto_region 1 with fail
      rw [← HW1.out]
      go_wp2_with fail
      refine CN.out.mono ?_
      rintro e w2 ⟨ag, cg, ad, cd, ay, cy, rfl, hO, hb2⟩
      have hRW := rw_new hO
      rw [← HR0.out] at hRW
      have HRW := hide hRW
      have HB2 := hide hb2
      obtain ⟨b, hbb⟩ : ∃ b, b = w2.heap.size := ⟨_, rfl⟩
      have HBB := hide hbb
      obtain ⟨S0, hP0⟩ := plI_start (ss := ss) ZBF.out HSZ1.out ZPF.out hb2 hRW
      have HP0 := hide hP0
      have hld : r0.ld = 0 := by rw [HR0.out]; rfl
      have hep : r0.ep = 1 := by rw [HR0.out]; rfl
      rw [hld, hep] at HP0
      rw [← hbb] at HP0
      clear hRW hO hb2 hbb hld hep hP0 HRW HB2
      obtain ⟨i0, hi, hz0, hz1, hz2⟩ := info_parts info_bool
      go_wp2
      rw [← HBB.out]
      go_loopw [9, 27] (fun did i wr => ∃ (j : Nat) (da : Option Addr) (dc : Nat) (S : Nat → Prop), j ≤ n ∧ did = .slice da j dc ∧ i = .int .i64 (j : Int) ∧ Hid (PlI w b r0 ss j da dc S wr)) (fun _ i _ => n - (intOf i).toNat)
      case atStart => exact ⟨0, none, 0, S0, Nat.zero_le _, rfl, rfl, HP0⟩
      case round =>
        obtain ⟨j, da, dc, S, hj, rfl, rfl, HP⟩ := hrel
        by_cases hlt : j < n
        · have hltI : (j : Int) < (n : Int) := by omega
          have hj0 : (0 : Int) ≤ (j : Int) := by omega
          obtain ⟨lb, lo, rfl, c0, c1, c2⟩ := HS.out j (by rw [HN.out]; exact hlt)
          have ht := HTX.out j (by rw [HN.out]; exact hlt)
          have q0 := (HP.out.bel.cell (p := ⟨lb, lo + j * 3, none⟩) (blk_lt9 c0)).trans c0
          have q1 := (HP.out.bel.cell (p := ⟨lb, lo + j * 3 + 1, none⟩) (blk_lt9 c1)).trans c1
          have q2 := (HP.out.bel.cell (p := ⟨lb, lo + j * 3 + 2, none⟩) (blk_lt9 c2)).trans c2
          obtain ⟨o, ho⟩ : ∃ o, o = stepM (plK r0 ss j).1 (ss.getD j eT) := ⟨_, rfl⟩
          obtain ⟨bo, hbo⟩ : ∃ bo, bo = o.isSome := ⟨_, rfl⟩
          have CS := hide (fun wx (hb : Below wr.heap.size wr wx) => step_any S b (plK r0 ss j).1 wx (plK_inv HI0.out ss j) (HP.out.box.below hb) (fun q hq => Nat.lt_of_lt_of_le (HP.out.lo q hq).2 hb.size) (ss.getD j eT).1 (ss.getD j eT).2.1 (ss.getD j eT).2.2 ht o ho)
          rw [← hbo] at CS
          have HO := hide ho
          have HBO := hide hbo
          obtain ⟨kd, hkd⟩ : ∃ kd, kd = (ss.getD j eT).1 := ⟨_, rfl⟩
          obtain ⟨nd, hnd⟩ : ∃ nd, nd = (ss.getD j eT).2.1 := ⟨_, rfl⟩
          obtain ⟨t, htt⟩ : ∃ t, t = (ss.getD j eT).2.2 := ⟨_, rfl⟩
          rw [← hkd] at q0 CS
          rw [← hnd] at q1 CS
          rw [← htt] at q2 CS
          clear c0 c1 c2 ht ho hbo hkd hnd htt
          go_wp2_with fail
          refine (CS.out _ ((Below.refl _ _).alloc (Nat.le_refl _) _)).mono ?_
          rintro e w4 ⟨rfl, hD⟩
          have O1 := hide (HP.out.didAt ((Below.refl wr.heap.size wr).alloc (Nat.le_refl _) _) hD)
          have HD := hide hD
          have hb4 : w.heap.size ≤ (w4.alloc (.cells #[.bool bo] 4)).heap.size := by have h1 := HP.out.bel.size; have h2 := hD.2.size; simp at h2 ⊢; omega
          clear hD CS
          go_wp2_with (first
            | (at_builtin; refine wpList_append_own_at _ rfl _ _ 29 rfl w.heap.size 4 i0 (.bool false) 1 1 Try.underlying29 hi hz0 hz1 hz2 rfl (by decide) (.slice da j dc) j _ rfl (O1.out _) ⟨w4.heap.size, 0, none⟩ 1 1 [.bool bo] rfl rfl (cell_one_new9 _ _ _) (by intro u hu; simp at hu; subst hu; rfl) (by unfold maxLen; omega) (by omega) hb4 ?_)
            | go_in)
          intro v6 w6 hown6 hg6 _ hb6
          rw [HBO.out] at hown6
          obtain ⟨da', dc', S', rfl, hP'⟩ := HP.out.next HO.out ((Below.refl wr.heap.size wr).alloc (Nat.le_refl _) _) HD.out hown6 hg6 (by rcases hb6 with e | e; exact .inl e; exact .inr (by rw [e]; simp))
          have HP' := hide hP'
          clear hown6 hg6 hb6 O1 HD HP hP'
          go_wp2
          go_roundw
          case rel => exact ⟨j + 1, da', dc', S', by omega, rfl, by go_num, HP'⟩
          case measure => simp [intOf]; omega
        · obtain rfl : j = n := by omega
          have hltI : ¬ (j : Int) < (j : Int) := by omega
          obtain ⟨z0, z1, z2, z3, z4, z5⟩ := blk6 HP.out.res
          have zf : ∀ i, wr.frozen? ⟨w.heap.size, i, none⟩ = false := fun i => frz HP.out.res i
          have hIR := plK_inv HI0.out ss j
          have hbx := HP.out.box
          rw [← HE1.out] at hIR hbx
          obtain ⟨V, gb, cg', db, cd', ay', cy', ac, cc, hb, hW, _⟩ := hbx.open hIR
          obtain ⟨k0, k1, k2, k3, k4, k5⟩ := blk6 hb
          obtain ⟨n1, hn1⟩ : ∃ x, x = R.G.length := ⟨_, rfl⟩
          obtain ⟨n2', hn2'⟩ : ∃ x, x = R.dn.length := ⟨_, rfl⟩
          obtain ⟨n3, hn3⟩ : ∃ x, x = R.sy.length := ⟨_, rfl⟩
          obtain ⟨n4, hn4⟩ : ∃ x, x = R.ce.length := ⟨_, rfl⟩
          obtain ⟨x1, hx1⟩ : ∃ x, x = R.ld := ⟨_, rfl⟩
          obtain ⟨x2, hx2⟩ : ∃ x, x = R.ep := ⟨_, rfl⟩
          have FIN := hide (fun v0 v1 v2 v3 v4 v5 e he => HP.out.out HE1.out HE2.out hW v0 v1 v2 v3 v4 v5 e he)
          simp only [← hn1, ← hn2', ← hn3, ← hn4, ← hx1, ← hx2] at FIN k0 k1 k2 k3 k4 k5
          clear hIR hbx hb hW hn1 hn2' hn3 hn4 hx1 hx2
          go_wp2
          refine bodyPost_ret (v := .tuple #[rpV (some ⟨gb, 0, none⟩) n1 cg' (some ⟨db, 0, none⟩) n2' cd' x1 x2 ay' n3 cy' ac n4 cc, .slice da j dc, .bool true]) (by simp [results, Try.f29, go_sem, z0, z1, z2, z3, z4, z5]) rfl ?_
          exact FIN.out _ _ _ _ _ _ _ rfl
    · have h120I : 120 < (n : Int) := by omega
      obtain ⟨e1, e2, e3⟩ := hv.no (fun h => h120 (by omega))
      subst e1
      subst e2
      subst e3
      clear hv hn hs htx hsz1 ZB ZP
      go_enter Try.func29, Try.ntmps29
      go_upto_region 1 with fail
      rw [← HW1.out]
      go_wp2_with fail
      refine CN.out.mono ?_
      rintro e w2 ⟨ag, cg, ad, cd, ay, cy, rfl, hO, hb2⟩
      have hb9 := ZBF.out.trans (hb2.mono ZBF.out.size)
      have zr := (hb2.block _ (Array.getElem?_eq_some_iff.1 ZPF.out).1).trans ZPF.out
      have zr2 : ∀ ob, (w2.alloc ob).heap[w.heap.size]? = some zR := fun ob => (((Below.refl w2.heap.size w2).alloc (Nat.le_refl _) ob).block _ (Array.getElem?_eq_some_iff.1 zr).1).trans zr
      have zc := fun ob => blk6 (zr2 ob)
      have z0 := fun ob => (zc ob).1
      have z1 := fun ob => (zc ob).2.1
      have z2 := fun ob => (zc ob).2.2.1
      have z3 := fun ob => (zc ob).2.2.2.1
      have z4 := fun ob => (zc ob).2.2.2.2.1
      have z5 := fun ob => (zc ob).2.2.2.2.2
      have zf : ∀ ob i, (w2.alloc ob).frozen? ⟨w.heap.size, i, none⟩ = false := fun ob i => frz (zr2 ob) i
      have HB9 := hide (fun ob => hb9.alloc hb9.size ob)
      clear hO hb2 hb9 zr zr2 zc
      go_wp2
      refine bodyPost_ret (v := .tuple #[rpV none 0 0 none 0 0 0 0 none 0 0 none 0 0, .slice none 0 0, .bool false]) (by simp [results, Try.f29, go_sem, z0, z1, z2, z3, z4, z5]) rfl ?_
      exact playRet_none (six_bel _ _ _ _ _ _ (HB9.out _) (Nat.le_refl _))
  · have CN := hide (implNew_any k w1 0 0 false (fun h => absurd h hk) (fun _ => ⟨rfl, rfl, rfl⟩))
    obtain ⟨e1, e2, e3⟩ := hv.no (fun h => hk h.1)
    subst e1
    subst e2
    subst e3
    clear hv hn hs htx hsz1 ZB ZP
    go_enter Try.func29, Try.ntmps29
    go_upto_region 1 with fail
    rw [← HW1.out]
    go_wp2_with fail
    refine CN.out.mono ?_
    rintro e w2 ⟨ag, cg, ad, cd, ay, cy, rfl, hO, hb2⟩
    have hb9 := ZBF.out.trans (hb2.mono ZBF.out.size)
    have zr := (hb2.block _ (Array.getElem?_eq_some_iff.1 ZPF.out).1).trans ZPF.out
    have zr2 : ∀ ob, (w2.alloc ob).heap[w.heap.size]? = some zR := fun ob => (((Below.refl w2.heap.size w2).alloc (Nat.le_refl _) ob).block _ (Array.getElem?_eq_some_iff.1 zr).1).trans zr
    have zc := fun ob => blk6 (zr2 ob)
    have z0 := fun ob => (zc ob).1
    have z1 := fun ob => (zc ob).2.1
    have z2 := fun ob => (zc ob).2.2.1
    have z3 := fun ob => (zc ob).2.2.2.1
    have z4 := fun ob => (zc ob).2.2.2.2.1
    have z5 := fun ob => (zc ob).2.2.2.2.2
    have zf : ∀ ob i, (w2.alloc ob).frozen? ⟨w.heap.size, i, none⟩ = false := fun ob i => frz (zr2 ob) i
    have HB9 := hide (fun ob => hb9.alloc hb9.size ob)
    clear hO hb2 hb9 zr zr2 zc
    go_wp2
    refine bodyPost_ret (v := .tuple #[rpV none 0 0 none 0 0 0 0 none 0 0 none 0 0, .slice none 0 0, .bool false]) (by simp [results, Try.f29, go_sem, z0, z1, z2, z3, z4, z5]) rfl ?_
    exact playRet_none (six_bel _ _ _ _ _ _ (HB9.out _) (Nat.le_refl _))
end Go.Proofs.Ythmekhhfihjclbd.L9

namespace Go.Proofs.Ythmekhhfihjclbd.L9
open Go.RowKit L1 L7
set_option linter.unusedVariables false

theorem withG {P : Program} {md : Region.Mode} {ops : Array Oper} {Q : Exit → Act → World → Prop} {S : World → Prop} {f : Nat} {l : Array Bool} {a : Act} {w : World} (h : ∀ G : Nat → Array Bool → Act → World → Prop, G = wpAnyH P md ops Q S → G f l a w) : wpAnyH P md ops Q S f l a w := h _ rfl
/-- 'append' of any list behind an empty one of the call's own. -/
theorem wp_copy {o : Oper} {a : Act} {K : Act → World → Prop} {Q : Exit → Act → World → Prop} {w : World} (s x : Operand) (t : TypeId)
    (ho : o.op = .call { callee := .builtin .append, args := #[s, x], argTypes := #[t, t] })
    (base : Nat) (e : TypeId) (i : TypeInfo) (z : Value) (size bytes : Nat) (ht : Try.prog.underlying t = some (.slice e)) (hi : Try.prog.info? e = some i) (hz : i.zero = some z)
    (hsize : i.size = size) (hby : i.bytes = bytes) (hzs : z.cells.size = size) (hsz : 0 < size) (hb64 : bytes ≤ 64)
    (g : Nat) (hs : a.eval s = .slice (some ⟨g, 0, none⟩) 0 0) (hown : w.ownsRow base e size (.slice (some ⟨g, 0, none⟩) 0 0) 0 [])
    (ax : Option Addr) (m c : Nat) (news : List Value) (hx : a.eval x = .slice ax m c) (hl : news.length = m * size) (hsrc : m = 0 ∨ ∃ ad, ax = some ad ∧ ∀ j u, news[j]? = some u → w.cell? (ad.add j) = some u) (h1 : ∀ u ∈ news, u.oneCell' = true)
    (hm : m ≤ 1048576) (hbase : base ≤ w.heap.size)
    (h : ∀ a' c' w', w'.ownsRow base e size (.slice a' m c') m news → w.grownBy w' (some g) → K (a.put o.dst (.slice a' m c')) w') : o.wp Try.prog a w K Q := by
  by_cases h0 : m = 0
  · subst h0
    have hn0 : news = [] := List.eq_nil_of_length_eq_zero (by omega)
    subst hn0
    have hr : (Builtin.append_ #[t, t] o.type #[.slice (some ⟨g, 0, none⟩) 0 0, .slice ax 0 c]).run Try.prog w = .ok (.slice (some ⟨g, 0, none⟩) 0 0) w := by
      refine run_append_nothing w t t o.type e i ht hi _ 0 0 (Nat.le_refl _) _ ?_
      cases ax with
      | none => exact Src.ofNil _ ht c
      | some x => exact Src.ofSlice _ ht x 0 c [] (by simp) (fun j u hu => by simp at hu) (fun u hu => by simp at hu)
    unfold Oper.wp execOp
    simp only [ho, resolve, invoke, builtin, Sem.run_bind, Sem.run_pure, Result.andThen_ok, List.map_toArray, List.map_cons, List.map_nil, hs, hx, hr]
    exact h _ _ _ hown (World.grownBy.refl _ _)
  · obtain ⟨ad, rfl, hc⟩ := hsrc.resolve_left h0
    refine wp_append_lies w s x t ho base e i z size bytes ht hi hz hsize hby hzs hsz (.slice (some ⟨g, 0, none⟩) 0 0) 0 [] hs hown ad m c news hx hl hc h1 (by omega) (by unfold maxLen; omega) (by
      have : (0 + m) * bytes ≤ 1048576 * 64 := Nat.mul_le_mul (by omega) hb64
      omega) hbase _ rfl ?_
    intro g4 c4 w4 h4 hg4 _ _
    rw [Nat.zero_add, List.nil_append] at h4
    rw [Nat.zero_add]
    exact h _ _ _ h4 hg4
structure OI (w2 w : World) (vd : Value) (nd : Nat) (xd : List Value) (vy : Value) (ny : Nat) (xy : List Value) (vc : Value) (nc : Nat) (xc : List Value) (oz : Option Nat) : Prop where
  d : w.ownsRow w2.heap.size 4 1 vd nd xd
  y : w.ownsRow w2.heap.size 3 1 vy ny xy
  c : w.ownsRow w2.heap.size 93 2 vc nc xc
  z : ∀ X, oz = some X → w2.heap.size ≤ X ∧ w.heap[X]? = some zR
  bel : Below w2.heap.size w2 w
section
variable {w2 w w' : World} {vd vy vc : Value} {nd ny nc : Nat} {xd xy xc : List Value} {oz : Option Nat}
theorem OI.below (h : OI w2 w vd nd xd vy ny xy vc nc xc oz) (hb : Below w.heap.size w w') : OI w2 w' vd nd xd vy ny xy vc nc xc oz :=
  ⟨own_at h.d fun q e => hb.block q (own_lt9 h.d q e), own_at h.y fun q e => hb.block q (own_lt9 h.y q e), own_at h.c fun q e => hb.block q (own_lt9 h.c q e), fun X e => ⟨(h.z X e).1, (hb.block X (Array.getElem?_eq_some_iff.1 (h.z X e).2).1).trans (h.z X e).2⟩, h.bel.trans (hb.mono h.bel.size)⟩
theorem OI.alloc (h : OI w2 w vd nd xd vy ny xy vc nc xc oz) (o : Obj) : OI w2 (w.alloc o) vd nd xd vy ny xy vc nc xc oz := h.below ((Below.refl _ _).alloc (Nat.le_refl _) o)
theorem own_emptyG (w : World) (base size : Nat) (t : TypeId) (hb : base ≤ w.heap.size) : (w.alloc (.cells #[] t)).ownsRow base t size (.slice (some ⟨w.heap.size, 0, none⟩) 0 0) 0 [] :=
  ⟨by simp, .inr ⟨w.heap.size, 0, #[], rfl, hb, blk_new9 w _, Nat.le_refl _, Nat.zero_le _, by simp, by simp⟩⟩
theorem OI.emptyD (h : OI w2 w vd nd xd vy ny xy vc nc xc oz) : OI w2 (w.alloc (.cells #[] 4)) (.slice (some ⟨w.heap.size, 0, none⟩) 0 0) 0 [] vy ny xy vc nc xc oz := ⟨own_emptyG w _ 1 _ h.bel.size, (h.alloc _).y, (h.alloc _).c, (h.alloc _).z, (h.alloc _).bel⟩
theorem OI.emptyY (h : OI w2 w vd nd xd vy ny xy vc nc xc oz) : OI w2 (w.alloc (.cells #[] 3)) vd nd xd (.slice (some ⟨w.heap.size, 0, none⟩) 0 0) 0 [] vc nc xc oz := ⟨(h.alloc _).d, own_emptyG w _ 1 _ h.bel.size, (h.alloc _).c, (h.alloc _).z, (h.alloc _).bel⟩
theorem OI.emptyC (h : OI w2 w vd nd xd vy ny xy vc nc xc oz) : OI w2 (w.alloc (.cells #[] 93)) vd nd xd vy ny xy (.slice (some ⟨w.heap.size, 0, none⟩) 0 0) 0 [] oz := ⟨(h.alloc _).d, (h.alloc _).y, own_emptyG w _ 2 _ h.bel.size, (h.alloc _).z, (h.alloc _).bel⟩
theorem OI.box (h : OI w2 w vd nd xd vy ny xy vc nc xc none) : OI w2 (w.alloc zR) vd nd xd vy ny xy vc nc xc (some w.heap.size) := ⟨(h.alloc _).d, (h.alloc _).y, (h.alloc _).c, fun X e => by cases e; exact ⟨h.bel.size, blk_new9 w zR⟩, (h.alloc _).bel⟩
theorem row_notBox {t : TypeId} {c n : Nat} {v : Value} {xs : List Value} {b X : Nat} (ho : w.ownsRow b t c v n xs) (hX : w.heap[X]? = some zR) (ht : 32 ≠ t) : v.ownBlock ≠ some X := fun e => by
  rcases ho.2 with ⟨hv, _⟩ | ⟨g, cap, cu, hv, _, hh, _⟩
  · rw [hv] at e; cases e
  · rw [hv] at e
    have e' : g = X := Option.some.inj e
    rw [e', hX] at hh
    cases hh
    exact ht rfl
theorem bel_grown {b : Nat} {v : Value} {t : TypeId} {c n : Nat} {xs : List Value} (hb : Below b w2 w) (hbs : b ≤ w2.heap.size) (ho : w.ownsRow b t c v n xs) (hg : w.grownBy w' v.ownBlock) : Below b w2 w' :=
  ⟨hg.os.trans hb.os, hg.tape.trans hb.tape, hg.output.trans hb.output, Nat.le_trans hb.size hg.size, fun k hk => (hg.block k (by have := hb.size; omega) (fun e => by have := own_ge ho k e.symm; omega)).trans (hb.block k hk)⟩
theorem OI.appD {v' : Value} {n' : Nat} {x' : List Value} (h : OI w2 w vd nd xd vy ny xy vc nc xc oz) (ho : w'.ownsRow w2.heap.size 4 1 v' n' x') (hg : w.grownBy w' vd.ownBlock) : OI w2 w' v' n' x' vy ny xy vc nc xc oz :=
  ⟨ho, own_at h.y fun q e => hg.block q (own_lt9 h.y q e) (fun e2 => L8.own_two h.d h.y t_bi q e2.symm e), own_at h.c fun q e => hg.block q (own_lt9 h.c q e) (fun e2 => L8.own_two h.d h.c t_eb.symm q e2.symm e), fun X e => ⟨(h.z X e).1, (hg.block X (Array.getElem?_eq_some_iff.1 (h.z X e).2).1 (fun e2 => row_notBox h.d (h.z X e).2 t_rb e2.symm)).trans (h.z X e).2⟩, bel_grown h.bel (Nat.le_refl _) h.d hg⟩
theorem OI.appY {v' : Value} {n' : Nat} {x' : List Value} (h : OI w2 w vd nd xd vy ny xy vc nc xc oz) (ho : w'.ownsRow w2.heap.size 3 1 v' n' x') (hg : w.grownBy w' vy.ownBlock) : OI w2 w' vd nd xd v' n' x' vc nc xc oz :=
  ⟨own_at h.d fun q e => hg.block q (own_lt9 h.d q e) (fun e2 => L8.own_two h.y h.d t_bi.symm q e2.symm e), ho, own_at h.c fun q e => hg.block q (own_lt9 h.c q e) (fun e2 => L8.own_two h.y h.c t_ei.symm q e2.symm e), fun X e => ⟨(h.z X e).1, (hg.block X (Array.getElem?_eq_some_iff.1 (h.z X e).2).1 (fun e2 => row_notBox h.y (h.z X e).2 t_ri e2.symm)).trans (h.z X e).2⟩, bel_grown h.bel (Nat.le_refl _) h.y hg⟩
theorem OI.appC {v' : Value} {n' : Nat} {x' : List Value} (h : OI w2 w vd nd xd vy ny xy vc nc xc oz) (ho : w'.ownsRow w2.heap.size 93 2 v' n' x') (hg : w.grownBy w' vc.ownBlock) : OI w2 w' vd nd xd vy ny xy v' n' x' oz :=
  ⟨own_at h.d fun q e => hg.block q (own_lt9 h.d q e) (fun e2 => L8.own_two h.c h.d t_eb q e2.symm e), own_at h.y fun q e => hg.block q (own_lt9 h.y q e) (fun e2 => L8.own_two h.c h.y t_ei q e2.symm e), ho, fun X e => ⟨(h.z X e).1, (hg.block X (Array.getElem?_eq_some_iff.1 (h.z X e).2).1 (fun e2 => row_notBox h.c (h.z X e).2 t_re e2.symm)).trans (h.z X e).2⟩, bel_grown h.bel (Nat.le_refl _) h.c hg⟩
end
theorem heap_six {w : World} {X : Nat} (v0 v1 v2 v3 v4 v5 : Value) (h : w.heap[X]? = some zR) : ((((((w.setCell ⟨X, 0, none⟩ v0).setCell ⟨X, 1, none⟩ v1).setCell ⟨X, 2, none⟩ v2).setCell ⟨X, 3, none⟩ v3).setCell ⟨X, 4, none⟩ v4).setCell ⟨X, 5, none⟩ v5).heap[X]? = some (.cells #[v0, v1, v2, v3, v4, v5] 32 (0, 0)) := by
  rw [heap_box (heap_box (heap_box (heap_box (heap_box (heap_box h 0 v0) 1 v1) 2 v2) 3 v3) 4 v4) 5 v5]
  rfl
theorem info_row : (Try.prog.info? 30).map (fun i => (i.zero, i.size, i.bytes)) = some (some (.slice none 0 0), 1, 24) := by kernel_rfl
/-- Some logs are copied. -/
structure OL (w2 w : World) (X : Nat) (V : List Value) (vg : Value) (k : Nat) (vd : Value) (nd : Nat) (xd : List Value) (vy : Value) (ny : Nat) (xy : List Value) (vc : Value) (nc : Nat) (xc : List Value) (ld ep : Int) (G : List (List En)) : Prop where
  box : w.heap[X]? = some (rbO vg vd ld ep vy vc)
  lo : w2.heap.size ≤ X
  g : w.ownsRow w2.heap.size 30 1 vg k V
  l : ∀ i, i < k → w.ownsRow w2.heap.size 93 2 (V.getD i nilV) (G.getD i []).length (flatE (G.getD i []))
  ap : ∀ i j q, i < k → j < k → i ≠ j → (V.getD i nilV).ownBlock = some q → (V.getD j nilV).ownBlock ≠ some q
  ac : ∀ i q, i < k → (V.getD i nilV).ownBlock = some q → vc.ownBlock ≠ some q
  d : w.ownsRow w2.heap.size 4 1 vd nd xd
  y : w.ownsRow w2.heap.size 3 1 vy ny xy
  c : w.ownsRow w2.heap.size 93 2 vc nc xc
  bel : Below w2.heap.size w2 w
theorem six_ne {w : World} {z q : Nat} (v0 v1 v2 v3 v4 v5 : Value) (h : q ≠ z) : ((((((w.setCell ⟨z, 0, none⟩ v0).setCell ⟨z, 1, none⟩ v1).setCell ⟨z, 2, none⟩ v2).setCell ⟨z, 3, none⟩ v3).setCell ⟨z, 4, none⟩ v4).setCell ⟨z, 5, none⟩ v5).heap[q]? = w.heap[q]? := by
  rw [Below.heap_setCell _ _ _ _ h, Below.heap_setCell _ _ _ _ h, Below.heap_setCell _ _ _ _ h, Below.heap_setCell _ _ _ _ h, Below.heap_setCell _ _ _ _ h, Below.heap_setCell _ _ _ _ h]
theorem ol_start {w2 w : World} {X : Nat} {vd vy vc : Value} {nd ny nc : Nat} {xd xy xc : List Value} {ld ep : Int} (h : OI w2 w vd nd xd vy ny xy vc nc xc (some X)) (G : List (List En)) :
    OL w2 ((((((w.setCell ⟨X, 0, none⟩ nilV).setCell ⟨X, 1, none⟩ vd).setCell ⟨X, 2, none⟩ (.int .i64 ld)).setCell ⟨X, 3, none⟩ (.int .i64 ep)).setCell ⟨X, 4, none⟩ vy).setCell ⟨X, 5, none⟩ vc) X [] (.slice none 0 0) 0 vd nd xd vy ny xy vc nc xc ld ep G := by
  obtain ⟨hz1, hz2⟩ := h.z X rfl
  have key : ∀ {t : TypeId} {c n : Nat} {v : Value} {xs : List Value}, w.ownsRow w2.heap.size t c v n xs → 32 ≠ t → ((((((w.setCell ⟨X, 0, none⟩ nilV).setCell ⟨X, 1, none⟩ vd).setCell ⟨X, 2, none⟩ (.int .i64 ld)).setCell ⟨X, 3, none⟩ (.int .i64 ep)).setCell ⟨X, 4, none⟩ vy).setCell ⟨X, 5, none⟩ vc).ownsRow w2.heap.size t c v n xs := fun ho ht => own_at ho fun q e => six_ne _ _ _ _ _ _ (fun e2 => row_notBox ho hz2 ht (e2 ▸ e))
  exact ⟨heap_six _ _ _ _ _ _ hz2, hz1, World.ownsRow_nil _ _ _ _, fun i hi => absurd hi (Nat.not_lt_zero _), fun i j q hi => absurd hi (Nat.not_lt_zero _), fun i q hi => absurd hi (Nat.not_lt_zero _), key h.d t_rb, key h.y t_ri, key h.c t_re, (((((h.bel.setCell (p := ⟨X, 0, none⟩) hz1 _).setCell (p := ⟨X, 1, none⟩) hz1 _).setCell (p := ⟨X, 2, none⟩) hz1 _).setCell (p := ⟨X, 3, none⟩) hz1 _).setCell (p := ⟨X, 4, none⟩) hz1 _).setCell (p := ⟨X, 5, none⟩) hz1 _⟩
theorem OL.below {w2 w w' : World} {X : Nat} {V : List Value} {vg vd vy vc : Value} {k nd ny nc : Nat} {xd xy xc : List Value} {ld ep : Int} {G : List (List En)} (h : OL w2 w X V vg k vd nd xd vy ny xy vc nc xc ld ep G) (hb : Below w.heap.size w w') : OL w2 w' X V vg k vd nd xd vy ny xy vc nc xc ld ep G :=
  ⟨(hb.block X (Array.getElem?_eq_some_iff.1 h.box).1).trans h.box, h.lo, own_at h.g fun q e => hb.block q (own_lt9 h.g q e), fun i hi => own_at (h.l i hi) fun q e => hb.block q (own_lt9 (h.l i hi) q e), h.ap, h.ac, own_at h.d fun q e => hb.block q (own_lt9 h.d q e), own_at h.y fun q e => hb.block q (own_lt9 h.y q e), own_at h.c fun q e => hb.block q (own_lt9 h.c q e), h.bel.trans (hb.mono h.bel.size)⟩
theorem row_notBoxR {w : World} {t : TypeId} {c n : Nat} {v : Value} {xs : List Value} {b X : Nat} {cur : Array Value} (ho : w.ownsRow b t c v n xs) (hX : w.heap[X]? = some (.cells cur 32 (0, 0))) (ht : 32 ≠ t) : v.ownBlock ≠ some X := fun e => by
  rcases ho.2 with ⟨hv, _⟩ | ⟨g, cap, cu, hv, _, hh, _⟩
  · rw [hv] at e; cases e
  · rw [hv] at e
    have e' : g = X := Option.some.inj e
    rw [e', hX] at hh
    cases hh
    exact ht rfl
theorem OL.step {w2 wr wC wD : World} {X : Nat} {V : List Value} {vg vd vy vc v vg' : Value} {k nd ny nc : Nat} {xd xy xc : List Value} {ld ep : Int} {G : List (List En)} (h : OL w2 wr X V vg k vd nd xd vy ny xy vc nc xc ld ep G) (hb : Below wr.heap.size wr wC) (hv : wC.ownsRow wr.heap.size 93 2 v (G.getD k []).length (flatE (G.getD k [])))
    (ho : wD.ownsRow w2.heap.size 30 1 vg' (k + 1) (V ++ [v])) (hg : wC.grownBy wD vg.ownBlock) : OL w2 (wD.setCell ⟨X, 0, none⟩ vg') X (V ++ [v]) vg' (k + 1) vd nd xd vy ny xy vc nc xc ld ep G := by
  have hC := h.below hb
  have hVl : V.length = k := by have := h.g.1; omega
  have hbs := h.bel.size
  have old : ∀ {t : TypeId} {b c n : Nat} {u : Value} {xs : List Value}, wC.ownsRow b t c u n xs → 30 ≠ t → wD.ownsRow b t c u n xs := fun hu ht => own_at hu fun q e => hg.block q (own_lt9 hu q e) (fun e2 => L8.own_two hC.g hu ht q e2.symm e)
  have hX : wD.heap[X]? = some (rbO vg vd ld ep vy vc) := (hg.block X (Array.getElem?_eq_some_iff.1 hC.box).1 (fun e => row_notBoxR hC.g hC.box t_rg e.symm)).trans hC.box
  have st : ∀ {t : TypeId} {b c n : Nat} {u : Value} {xs : List Value}, wD.ownsRow b t c u n xs → 32 ≠ t → (wD.setCell ⟨X, 0, none⟩ vg').ownsRow b t c u n xs := fun hu ht => own_at hu fun q e => Below.heap_setCell _ _ _ _ (fun e2 => row_notBoxR hu hX ht (by rw [e]; exact congrArg some e2))
  have gk : ∀ i, (V ++ [v]).getD i nilV = if i < k then V.getD i nilV else if i = k then v else nilV := fun i => by
    simp only [List.getD]
    by_cases h1 : i < k
    · rw [if_pos h1, List.getElem?_append_left (by omega)]
    · rw [if_neg h1, List.getElem?_append_right (by omega)]
      by_cases h2 : i = k
      · rw [if_pos h2, h2, hVl]; simp
      · rw [if_neg h2]
        obtain ⟨d, hd⟩ : ∃ d, i - V.length = d + 1 := ⟨i - V.length - 1, by omega⟩
        rw [hd]; rfl
  have new : ∀ q, v.ownBlock = some q → wr.heap.size ≤ q := fun q e => own_ge hv q e
  refine ⟨by rw [heap_box hX]; rfl, h.lo, st ho t_rg, fun i hi => ?_, fun i j q hi hj hij e => ?_, fun i q hi e => ?_, st (old hC.d t_gb) t_rb, st (old hC.y t_gi) t_ri, st (old hC.c t_ge) t_re, ?_⟩
  · rw [gk]
    by_cases h1 : i < k
    · rw [if_pos h1]; exact st (old (hC.l i h1) t_ge) t_re
    · have h2 : i = k := by omega
      rw [if_neg h1, if_pos h2, h2]
      refine st (own_from (own_zero (old hv t_ge)) fun q e => by have := new q e; omega) t_re
  · rw [gk] at e
    rw [gk]
    by_cases h1 : i < k
    · rw [if_pos h1] at e
      by_cases h2 : j < k
      · rw [if_pos h2]; exact h.ap i j q h1 h2 hij e
      · rw [if_neg h2, if_pos (show j = k by omega)]
        intro e2
        have := new q e2
        have := own_lt9 (h.l i h1) q e
        omega
    · rw [if_neg h1, if_pos (show i = k by omega)] at e
      have h2 : j < k := by omega
      rw [if_pos h2]
      intro e2
      have := new q e
      have := own_lt9 (h.l j h2) q e2
      omega
  · rw [gk] at e
    by_cases h1 : i < k
    · rw [if_pos h1] at e; exact h.ac i q h1 e
    · rw [if_neg h1, if_pos (show i = k by omega)] at e
      intro e2
      have := new q e
      have := own_lt9 h.c q e2
      omega
  · exact (bel_grown hC.bel (Nat.le_refl _) hC.g hg).setCell (p := ⟨X, 0, none⟩) h.lo _
theorem ol_out {w w2 wr : World} {X z : Nat} {V : List Value} {vg vd vy vc : Value} {ld ep : Int} {r : Rm} (h : OL w2 wr X V vg r.G.length vd r.dn.length (r.dn.map Value.bool) vy r.sy.length (r.sy.map (Value.int .i64)) vc r.ce.length (flatE r.ce) ld ep r.G) (hb : Below w.heap.size w w2) (hz : w.heap.size ≤ z ∧ z < w2.heap.size) (v0 v1 v2 v3 v4 v5 : Value) :
    RW ((((((wr.setCell ⟨z, 0, none⟩ v0).setCell ⟨z, 1, none⟩ v1).setCell ⟨z, 2, none⟩ v2).setCell ⟨z, 3, none⟩ v3).setCell ⟨z, 4, none⟩ v4).setCell ⟨z, 5, none⟩ v5) (fun q => w.heap.size ≤ q ∧ q < ((((((wr.setCell ⟨z, 0, none⟩ v0).setCell ⟨z, 1, none⟩ v1).setCell ⟨z, 2, none⟩ v2).setCell ⟨z, 3, none⟩ v3).setCell ⟨z, 4, none⟩ v4).setCell ⟨z, 5, none⟩ v5).heap.size) V vg vd vy vc r ∧ Below w.heap.size w ((((((wr.setCell ⟨z, 0, none⟩ v0).setCell ⟨z, 1, none⟩ v1).setCell ⟨z, 2, none⟩ v2).setCell ⟨z, 3, none⟩ v3).setCell ⟨z, 4, none⟩ v4).setCell ⟨z, 5, none⟩ v5) := by
  have e6 : ((((((wr.setCell ⟨z, 0, none⟩ v0).setCell ⟨z, 1, none⟩ v1).setCell ⟨z, 2, none⟩ v2).setCell ⟨z, 3, none⟩ v3).setCell ⟨z, 4, none⟩ v4).setCell ⟨z, 5, none⟩ v5).heap.size = wr.heap.size := by simp
  have hs := hb.size
  have key : ∀ {t : TypeId} {c n : Nat} {v : Value} {xs : List Value}, wr.ownsRow w2.heap.size t c v n xs → ((((((wr.setCell ⟨z, 0, none⟩ v0).setCell ⟨z, 1, none⟩ v1).setCell ⟨z, 2, none⟩ v2).setCell ⟨z, 3, none⟩ v3).setCell ⟨z, 4, none⟩ v4).setCell ⟨z, 5, none⟩ v5).ownsRow 0 t c v n xs := fun ho => own_zero (own_at ho fun q e => six_ne _ _ _ _ _ _ (by have := own_ge ho q e; omega))
  have ins : ∀ {t : TypeId} {c n : Nat} {v : Value} {xs : List Value}, wr.ownsRow w2.heap.size t c v n xs → InS (fun q => w.heap.size ≤ q ∧ q < ((((((wr.setCell ⟨z, 0, none⟩ v0).setCell ⟨z, 1, none⟩ v1).setCell ⟨z, 2, none⟩ v2).setCell ⟨z, 3, none⟩ v3).setCell ⟨z, 4, none⟩ v4).setCell ⟨z, 5, none⟩ v5).heap.size) v := fun ho q e => ⟨by have := own_ge ho q e; omega, by rw [e6]; exact own_lt9 ho q e⟩
  refine ⟨⟨key h.g, fun i hi => key (h.l i hi), h.ap, h.ac, key h.d, key h.y, key h.c, ins h.g, fun i hi => ins (h.l i hi), ins h.d, ins h.y, ins h.c⟩, ?_⟩
  have hB := hb.trans (h.bel.mono hs)
  exact (((((hB.setCell (p := ⟨z, 0, none⟩) hz.1 _).setCell (p := ⟨z, 1, none⟩) hz.1 _).setCell (p := ⟨z, 2, none⟩) hz.1 _).setCell (p := ⟨z, 3, none⟩) hz.1 _).setCell (p := ⟨z, 4, none⟩) hz.1 _).setCell (p := ⟨z, 5, none⟩) hz.1 _
end Go.Proofs.Ythmekhhfihjclbd.L9

namespace Go.Proofs.Ythmekhhfihjclbd.L9
open Go.RowKit L1 L7
set_option linter.unusedVariables false

theorem six_belO {N : Nat} {w w' : World} {z : Nat} (v0 v1 v2 v3 v4 v5 : Value) (h : Below N w w') (hz : N ≤ z) : Below N w ((((((w'.setCell ⟨z, 0, none⟩ v0).setCell ⟨z, 1, none⟩ v1).setCell ⟨z, 2, none⟩ v2).setCell ⟨z, 3, none⟩ v3).setCell ⟨z, 4, none⟩ v4).setCell ⟨z, 5, none⟩ v5) :=
  (((((h.setCell (p := ⟨z, 0, none⟩) hz _).setCell (p := ⟨z, 1, none⟩) hz _).setCell (p := ⟨z, 2, none⟩) hz _).setCell (p := ⟨z, 3, none⟩) hz _).setCell (p := ⟨z, 4, none⟩) hz _).setCell (p := ⟨z, 5, none⟩) hz _
theorem slB_src {w : World} {a : Option Addr} {xs : List Bool} (h : SlB w a xs) : xs.length = 0 ∨ ∃ ad, a = some ad ∧ ∀ j u, (xs.map Value.bool)[j]? = some u → w.cell? (ad.add j) = some u := by
  by_cases h0 : xs.length = 0
  · exact .inl h0
  · obtain ⟨b, off, rfl, _⟩ := h 0 (by omega)
    refine .inr ⟨_, rfl, fun j u hu => ?_⟩
    by_cases hj : j < xs.length
    · obtain ⟨b', off', e, hc⟩ := h j hj
      cases e
      rw [List.getElem?_map, List.getElem?_eq_getElem hj] at hu
      cases hu
      rw [add_at, hc]
      simp [List.getD, List.getElem?_eq_getElem hj]
    · rw [List.getElem?_eq_none (by simp; omega)] at hu
      cases hu
theorem sl_src {w : World} {a : Option Addr} {xs : List Int} (h : Sl w a xs) : xs.length = 0 ∨ ∃ ad, a = some ad ∧ ∀ j u, (xs.map (Value.int .i64))[j]? = some u → w.cell? (ad.add j) = some u := by
  by_cases h0 : xs.length = 0
  · exact .inl h0
  · obtain ⟨b, off, rfl, _⟩ := h 0 (by omega)
    refine .inr ⟨_, rfl, fun j u hu => ?_⟩
    by_cases hj : j < xs.length
    · obtain ⟨b', off', e, hc⟩ := h j hj
      cases e
      rw [List.getElem?_map, List.getElem?_eq_getElem hj] at hu
      cases hu
      rw [add_at, hc]
      simp [List.getD, List.getElem?_eq_getElem hj]
    · rw [List.getElem?_eq_none (by simp; omega)] at hu
      cases hu
theorem slE_src {w : World} {a : Option Addr} {xs : List En} (h : SlE w a xs) : xs.length = 0 ∨ ∃ ad, a = some ad ∧ ∀ j u, (flatE xs)[j]? = some u → w.cell? (ad.add j) = some u := by
  by_cases h0 : xs.length = 0
  · exact .inl h0
  · obtain ⟨b, off, rfl, _⟩ := h 0 (by omega)
    exact .inr ⟨_, rfl, flatE_cells h⟩
set_option maxRecDepth 100000 in
set_option maxHeartbeats 8000000 in
theorem own9_any (ag : Option Addr) (n cg : Nat) (ad : Option Addr) (nd cd : Nat) (ld ep : Int) (ay : Option Addr) (ny cy : Nat) (ac : Option Addr) (nc cc : Nat) (r : Rm) (w : World) (hn : n = r.G.length) (hnd : nd = r.dn.length) (hny : ny = r.sy.length) (hnc : nc = r.ce.length) (hld : ld = r.ld) (hep : ep = r.ep) (bn : n ≤ 5) (bd : nd ≤ 5) (by5 : ny ≤ 5) (bc : nc ≤ 40) (hls : ∀ i, i < r.G.length → (r.G.getD i []).length ≤ 1048576) (hR : RpS w ag ay ac r.G r.sy r.ce) (hB : SlB w ad r.dn) :
    Calls Try.prog 65 #[rpV ag n cg ad nd cd ld ep ay ny cy ac nc cc] w fun e w' => ∃ V ag' cg' ad' cd' ay' cy' ac' cc', e = .returned (rpV ag' n cg' ad' nd cd' ld ep ay' ny cy' ac' nc cc') ∧ RW w' (fun q => w.heap.size ≤ q ∧ q < w'.heap.size) V (.slice ag' n cg') (.slice ad' nd cd') (.slice ay' ny cy') (.slice ac' nc cc') r ∧ Below w.heap.size w w' := by
  have X0 := (((Below.refl (w.alloc (rpO ag n cg ad nd cd ld ep ay ny cy ac nc cc)).heap.size (w.alloc (rpO ag n cg ad nd cd ld ep ay ny cy ac nc cc))).alloc (Nat.le_refl _) zR).block w.heap.size (by simp)).trans (blk_new9 w (rpO ag n cg ad nd cd ld ep ay ny cy ac nc cc))
  have BX := ((Below.refl w.heap.size w).alloc (Nat.le_refl _) (rpO ag n cg ad nd cd ld ep ay ny cy ac nc cc)).alloc (by simp) zR
  have X1 : ((w.alloc (rpO ag n cg ad nd cd ld ep ay ny cy ac nc cc)).alloc zR).heap[w.heap.size + 1]? = some zR := by
    have := blk_new9 (w.alloc (rpO ag n cg ad nd cd ld ep ay ny cy ac nc cc)) zR
    simpa using this
  have hs2 : ((w.alloc (rpO ag n cg ad nd cd ld ep ay ny cy ac nc cc)).alloc zR).heap.size = w.heap.size + 2 := by simp
  obtain ⟨w2, hw2⟩ : ∃ w2, w2 = (w.alloc (rpO ag n cg ad nd cd ld ep ay ny cy ac nc cc)).alloc zR := ⟨_, rfl⟩
  rw [← hw2] at X0 X1 BX hs2
  have HW2 := hide hw2
  have HX1 := hide X1
  have HBX := hide BX
  have HS2 := hide hs2
  obtain ⟨c0, c1, c2, c3, c4, c5⟩ := blk6 X0
  obtain ⟨XD, hXD⟩ : ∃ XD, XD = r.dn.map Value.bool := ⟨_, rfl⟩
  obtain ⟨XY, hXY⟩ : ∃ XY, XY = r.sy.map (Value.int .i64) := ⟨_, rfl⟩
  obtain ⟨XC, hXC⟩ : ∃ XC, XC = flatE r.ce := ⟨_, rfl⟩
  have LD : Hid (XD.length = nd * 1) := by show XD.length = nd * 1; rw [hXD, List.length_map]; omega
  have LY : Hid (XY.length = ny * 1) := by show XY.length = ny * 1; rw [hXY, List.length_map]; omega
  have LC : Hid (XC.length = nc * 2) := by show XC.length = nc * 2; rw [hXC, flatE_len]; omega
  have O_D : Hid (∀ u ∈ XD, u.oneCell' = true) := hide (by rw [hXD]; intro u hu; obtain ⟨x, _, rfl⟩ := List.mem_map.1 hu; rfl)
  have O_Y : Hid (∀ u ∈ XY, u.oneCell' = true) := hide (by rw [hXY]; intro u hu; obtain ⟨x, _, rfl⟩ := List.mem_map.1 hu; rfl)
  have O_C : Hid (∀ u ∈ XC, u.oneCell' = true) := hide (by rw [hXC]; exact flatE_one _)
  have S_D : Hid (∀ wx, Below w2.heap.size w2 wx → nd = 0 ∨ ∃ ad', ad = some ad' ∧ ∀ j u, XD[j]? = some u → wx.cell? (ad'.add j) = some u) := hide (fun wx hb => by rw [hXD, hnd]; exact slB_src ((hB.below BX).below hb))
  have S_Y : Hid (∀ wx, Below w2.heap.size w2 wx → ny = 0 ∨ ∃ ad', ay = some ad' ∧ ∀ j u, XY[j]? = some u → wx.cell? (ad'.add j) = some u) := hide (fun wx hb => by rw [hXY, hny]; exact sl_src ((hR.y.below BX).below hb))
  have S_C : Hid (∀ wx, Below w2.heap.size w2 wx → nc = 0 ∨ ∃ ad', ac = some ad' ∧ ∀ j u, XC[j]? = some u → wx.cell? (ad'.add j) = some u) := hide (fun wx hb => by rw [hXC, hnc]; exact slE_src ((hR.c.below BX).below hb))
  have KEEP : Hid (∀ wx, Below w2.heap.size w2 wx → (wx.cell? ⟨w.heap.size, 1, none⟩ = some (.slice ad nd cd) ∧ wx.cell? ⟨w.heap.size, 2, none⟩ = some (.int .i64 ld) ∧ wx.cell? ⟨w.heap.size, 3, none⟩ = some (.int .i64 ep) ∧ wx.cell? ⟨w.heap.size, 4, none⟩ = some (.slice ay ny cy) ∧ wx.cell? ⟨w.heap.size, 5, none⟩ = some (.slice ac nc cc))) := hide (fun wx hb => ⟨(hb.cell (blk_lt9 c1)).trans c1, (hb.cell (blk_lt9 c2)).trans c2, (hb.cell (blk_lt9 c3)).trans c3, (hb.cell (blk_lt9 c4)).trans c4, (hb.cell (blk_lt9 c5)).trans c5⟩)
  have HRG := hide hR.g
  have HLS : Hid (∀ i, i < n → (r.G.getD i []).length ≤ 1048576) := hide (fun i hi => hls i (by omega))
  have HXD := hide hXD
  have HXY := hide hXY
  have HXC := hide hXC
  have HN := hide hn
  have HND := hide hnd
  have HNY := hide hny
  have HNC := hide hnc
  have HLD := hide hld
  have HEP := hide hep
  obtain ⟨iIB, hIB1, hIB2, hIB3, hIB4⟩ := info_parts info_bool
  obtain ⟨iII, hII1, hII2, hII3, hII4⟩ := info_parts info_int
  obtain ⟨iIE, hIE1, hIE2, hIE3, hIE4⟩ := info_parts info_ent
  clear hls hw2 X0 X1 BX hs2 hXD hXY hXC hR hB hn hnd hny hnc hld hep
  go_enter Try.func65, Try.ntmps65
  go_upto_region 1 with fail
  rw [← HW2.out]
  go_cut [3] (fun t wx => ∃ X a9 c9 a17 c17 a21 c21, t = .pointer (some ⟨X, 0, none⟩) ∧ ∃ wy, OI w2 wy (.slice a9 nd c9) nd XD (.slice a17 ny c17) ny XY (.slice a21 nc c21) nc XC (some X) ∧ wx = (((((wy.setCell ⟨X, 0, none⟩ nilV).setCell ⟨X, 1, none⟩ (.slice a9 nd c9)).setCell ⟨X, 2, none⟩ (.int .i64 ld)).setCell ⟨X, 3, none⟩ (.int .i64 ep)).setCell ⟨X, 4, none⟩ (.slice a17 ny c17)).setCell ⟨X, 5, none⟩ (.slice a21 nc c21))
  case first =>
    refine wp_region_held_drew (S := fun wx => wx.cell? ⟨w.heap.size, 1, none⟩ = some (.slice ad nd cd) ∧ wx.cell? ⟨w.heap.size, 2, none⟩ = some (.int .i64 ld) ∧ wx.cell? ⟨w.heap.size, 3, none⟩ = some (.int .i64 ep) ∧ wx.cell? ⟨w.heap.size, 4, none⟩ = some (.slice ay ny cy) ∧ wx.cell? ⟨w.heap.size, 5, none⟩ = some (.slice ac nc cc)) (by kernel_rfl) ⟨c1, c2, c3, c4, c5⟩ (fun hHeld => ?_)
    refine wpAnyH_take (i := 1) (v := ?v1) rfl (by kernel_rfl) (by kernel_rfl) (by kernel_rfl) (fun _ _ _ h => h) (Or.inl ⟨by rfl, ?y1⟩) (by assumption) ?r1
    case y1 => (intro w hSw; (try dsimp only at hSw); go_simp; try (with_reducible rfl))
    simp only [List.getElem_toArray, List.getElem_cons_succ, List.getElem_cons_zero, Act.put, List.setIfInBounds_toArray, List.set_cons_zero, List.set_cons_succ]
    refine wpAnyH_take (i := 2) (v := ?v2) rfl (by kernel_rfl) (by kernel_rfl) (by kernel_rfl) (fun _ _ _ h => h) (Or.inl ⟨by rfl, ?y2⟩) (by assumption) ?r2
    case y2 => (intro w hSw; (try dsimp only at hSw); go_simp; try (with_reducible rfl))
    simp only [List.getElem_toArray, List.getElem_cons_succ, List.getElem_cons_zero, Act.put, List.setIfInBounds_toArray, List.set_cons_zero, List.set_cons_succ]
    refine wpAnyH_take (i := 4) (v := ?v3) rfl (by kernel_rfl) (by kernel_rfl) (by kernel_rfl) (fun _ _ _ h => h) (Or.inl ⟨by rfl, ?y3⟩) (by assumption) ?r3
    case y3 => (intro w hSw; (try dsimp only at hSw); go_simp; try (with_reducible rfl))
    simp only [List.getElem_toArray, List.getElem_cons_succ, List.getElem_cons_zero, Act.put, List.setIfInBounds_toArray, List.set_cons_zero, List.set_cons_succ]
    refine wpAnyH_take (i := 5) (v := ?v4) rfl (by kernel_rfl) (by kernel_rfl) (by kernel_rfl) (fun _ _ _ h => h) (Or.inl ⟨by rfl, ?y4⟩) (by assumption) ?r4
    case y4 => (intro w hSw; (try dsimp only at hSw); go_simp; try (with_reducible rfl))
    simp only [List.getElem_toArray, List.getElem_cons_succ, List.getElem_cons_zero, Act.put, List.setIfInBounds_toArray, List.set_cons_zero, List.set_cons_succ]
    refine wpAnyH_take (i := 6) (v := ?v5) rfl (by kernel_rfl) (by kernel_rfl) (by kernel_rfl) (fun _ _ _ h => h) (Or.inl ⟨by rfl, ?y5⟩) (by assumption) ?r5
    case y5 => (intro w hSw; (try dsimp only at hSw); go_simp; try (with_reducible rfl))
    simp only [List.getElem_toArray, List.getElem_cons_succ, List.getElem_cons_zero, Act.put, List.setIfInBounds_toArray, List.set_cons_zero, List.set_cons_succ]
    refine wpAnyH_take (i := 7) (v := ?v6) rfl (by kernel_rfl) (by kernel_rfl) (by kernel_rfl) (fun _ _ _ h => h) (Or.inl ⟨by rfl, ?y6⟩) (by assumption) ?r6
    case y6 => (intro w hSw; (try dsimp only at hSw); go_simp; try (with_reducible rfl))
    simp only [List.getElem_toArray, List.getElem_cons_succ, List.getElem_cons_zero, Act.put, List.setIfInBounds_toArray, List.set_cons_zero, List.set_cons_succ]
    refine wpAnyH_take (i := 9) (v := ?v7) rfl (by kernel_rfl) (by kernel_rfl) (by kernel_rfl) (fun _ _ _ h => h) (Or.inl ⟨by rfl, ?y7⟩) (by assumption) ?r7
    case y7 => (intro w hSw; (try dsimp only at hSw); go_simp; try (with_reducible rfl))
    simp only [List.getElem_toArray, List.getElem_cons_succ, List.getElem_cons_zero, Act.put, List.setIfInBounds_toArray, List.set_cons_zero, List.set_cons_succ]
    refine wpAnyH_take (i := 10) (v := ?v8) rfl (by kernel_rfl) (by kernel_rfl) (by kernel_rfl) (fun _ _ _ h => h) (Or.inl ⟨by rfl, ?y8⟩) (by assumption) ?r8
    case y8 => (intro w hSw; (try dsimp only at hSw); go_simp; try (with_reducible rfl))
    simp only [List.getElem_toArray, List.getElem_cons_succ, List.getElem_cons_zero, Act.put, List.setIfInBounds_toArray, List.set_cons_zero, List.set_cons_succ]
    refine wpAnyH_take (i := 13) (v := ?v9) rfl (by kernel_rfl) (by kernel_rfl) (by kernel_rfl) (fun _ _ _ h => h) (Or.inl ⟨by rfl, ?y9⟩) (by assumption) ?r9
    case y9 => (intro w hSw; (try dsimp only at hSw); go_simp; try (with_reducible rfl))
    simp only [List.getElem_toArray, List.getElem_cons_succ, List.getElem_cons_zero, Act.put, List.setIfInBounds_toArray, List.set_cons_zero, List.set_cons_succ]
    refine wpAnyH_take (i := 14) (v := ?v10) rfl (by kernel_rfl) (by kernel_rfl) (by kernel_rfl) (fun _ _ _ h => h) (Or.inl ⟨by rfl, ?y10⟩) (by assumption) ?r10
    case y10 => (intro w hSw; (try dsimp only at hSw); go_simp; try (with_reducible rfl))
    simp only [List.getElem_toArray, List.getElem_cons_succ, List.getElem_cons_zero, Act.put, List.setIfInBounds_toArray, List.set_cons_zero, List.set_cons_succ]
    refine withG (fun G hG => ?_)
    clear hHeld
    have st31111 : ∀ (g6 : Nat) (a9 : Option Addr) (c9 : Nat) (g14 : Nat) (a17 : Option Addr) (c17 : Nat) (g18 : Nat) (a21 : Option Addr) (c21 : Nat) (X : Nat) wx, OI w2 wx (.slice a9 nd c9) nd XD (.slice a17 ny c17) ny XY (.slice a21 nc c21) nc XC (some X) → G 2 #[true, true, true, true, true, true, true, true, true, true, true, true, true, true, true, true, false, true, false] ⟨#[rpV ag n cg ad nd cd ld ep ay ny cy ac nc cc, .pointer (some ⟨w.heap.size, 0, none⟩), .pointer (some ⟨w.heap.size + 1, 0, none⟩), .pointer (some ⟨X, 0, none⟩), undef, undef, .slice (some ⟨g6, 0, none⟩) 0 0, .pointer (some ⟨w.heap.size, 1, none⟩), .slice ad nd cd, .slice a9 nd c9, .pointer (some ⟨w.heap.size, 2, none⟩), .int .i64 ld, .pointer (some ⟨w.heap.size, 3, none⟩), .int .i64 ep, .slice (some ⟨g14, 0, none⟩) 0 0, .pointer (some ⟨w.heap.size, 4, none⟩), .slice ay ny cy, .slice a17 ny c17, .slice (some ⟨g18, 0, none⟩) 0 0, .pointer (some ⟨w.heap.size, 5, none⟩), .slice ac nc cc, .slice a21 nc c21, undef, undef, undef, undef, undef, undef, undef, undef, undef, undef, undef, undef, undef, undef, undef, undef, undef, undef], []⟩ wx := by
      intro g6 a9 c9 g14 a17 c17 g18 a21 c21 X wx hOI
      have HOI := hide hOI
      have hSx := KEEP.out wx hOI.bel
      clear hOI
      rw [hG]
      refine wpAnyH_take (i := 16) (v := ?v11) rfl (by kernel_rfl) (by kernel_rfl) (by kernel_rfl) (fun _ _ _ h => h) (Or.inl ⟨by rfl, ?y11⟩) (by assumption) ?r11
      case y11 => (intro w hSw; (try dsimp only at hSw); go_simp; try (with_reducible rfl))
      simp only [List.getElem_toArray, List.getElem_cons_succ, List.getElem_cons_zero, Act.put, List.setIfInBounds_toArray, List.set_cons_zero, List.set_cons_succ]
      refine wpAnyH_ready (rs := [18]) (by kernel_rfl) (by simp) ?_
      refine AllReadyH.cons rfl (fun K hK => ?_) AllReadyH.nil
      simp only [List.getElem_toArray, List.getElem_cons_succ, List.getElem_cons_zero]
      have zc := (HOI.out.z _ rfl).2
      obtain ⟨z0, z1, z2, z3, z4, z5⟩ := blk6 zc
      have zf : ∀ c, wx.frozen? ⟨X, c, none⟩ = false := fun c => frz zc c
      go_simp
      refine hK.out _ _ ?_ (fun hHeld => ?_)
      · exact KEEP.out _ (six_belO _ _ _ _ _ _ HOI.out.bel (HOI.out.z _ rfl).1)
      clear hK K
      try simp only [List.setIfInBounds_toArray, List.set_cons_zero, List.set_cons_succ]
      refine wpAnyH_done (by kernel_rfl) ?_ _
      clear hHeld z0 z1 z2 z3 z4 z5 zf zc
      go_wp2_with fail
      go_meet
      case rel => exact ⟨X, a9, c9, a17, c17, a21, c21, rfl, wx, HOI.out, rfl⟩
    have st31110 : ∀ (g6 : Nat) (a9 : Option Addr) (c9 : Nat) (g14 : Nat) (a17 : Option Addr) (c17 : Nat) (g18 : Nat) (a21 : Option Addr) (c21 : Nat) wx, OI w2 wx (.slice a9 nd c9) nd XD (.slice a17 ny c17) ny XY (.slice a21 nc c21) nc XC none → G 3 #[true, true, true, true, true, true, true, true, true, true, true, true, true, true, true, true, false, false, false] ⟨#[rpV ag n cg ad nd cd ld ep ay ny cy ac nc cc, .pointer (some ⟨w.heap.size, 0, none⟩), .pointer (some ⟨w.heap.size + 1, 0, none⟩), undef, undef, undef, .slice (some ⟨g6, 0, none⟩) 0 0, .pointer (some ⟨w.heap.size, 1, none⟩), .slice ad nd cd, .slice a9 nd c9, .pointer (some ⟨w.heap.size, 2, none⟩), .int .i64 ld, .pointer (some ⟨w.heap.size, 3, none⟩), .int .i64 ep, .slice (some ⟨g14, 0, none⟩) 0 0, .pointer (some ⟨w.heap.size, 4, none⟩), .slice ay ny cy, .slice a17 ny c17, .slice (some ⟨g18, 0, none⟩) 0 0, .pointer (some ⟨w.heap.size, 5, none⟩), .slice ac nc cc, .slice a21 nc c21, undef, undef, undef, undef, undef, undef, undef, undef, undef, undef, undef, undef, undef, undef, undef, undef, undef, undef], []⟩ wx := by
      intro g6 a9 c9 g14 a17 c17 g18 a21 c21 wx hOI
      have HOI := hide hOI
      have hSx := KEEP.out wx hOI.bel
      clear hOI
      rw [hG]
      refine wpAnyH_take (i := 16) (v := ?v12) rfl (by kernel_rfl) (by kernel_rfl) (by kernel_rfl) (fun _ _ _ h => h) (Or.inl ⟨by rfl, ?y12⟩) (by assumption) ?r12
      case y12 => (intro w hSw; (try dsimp only at hSw); go_simp; try (with_reducible rfl))
      simp only [List.getElem_toArray, List.getElem_cons_succ, List.getElem_cons_zero, Act.put, List.setIfInBounds_toArray, List.set_cons_zero, List.set_cons_succ]
      refine wpAnyH_ready (rs := [17]) (by kernel_rfl) (by simp) ?_
      refine AllReadyH.cons rfl (fun K hK => ?_) AllReadyH.nil
      simp only [List.getElem_toArray, List.getElem_cons_succ, List.getElem_cons_zero]
      go_simp
      refine hK.out _ _ ?_ (fun hHeld => ?_)
      · exact KEEP.out _ HOI.out.box.bel
      clear hK K
      try simp only [List.setIfInBounds_toArray, List.set_cons_zero, List.set_cons_succ]
      replace HOI := hide HOI.out.box
      obtain ⟨X, hX⟩ : ∃ X, X = wx.heap.size := ⟨_, rfl⟩
      rw [← hX] at HOI ⊢
      obtain ⟨wy, hwy⟩ : ∃ wy, wy = wx.alloc zR := ⟨_, rfl⟩
      rw [← hwy] at HOI ⊢
      clear hX hwy hHeld hSx
      refine wpAnyH_ready (rs := [18]) (by kernel_rfl) (by simp) ?_
      refine AllReadyH.cons rfl (fun K hK => ?_) AllReadyH.nil
      simp only [List.getElem_toArray, List.getElem_cons_succ, List.getElem_cons_zero]
      have zc := (HOI.out.z _ rfl).2
      obtain ⟨z0, z1, z2, z3, z4, z5⟩ := blk6 zc
      have zf : ∀ c, wy.frozen? ⟨X, c, none⟩ = false := fun c => frz zc c
      go_simp
      refine hK.out _ _ ?_ (fun hHeld => ?_)
      · exact KEEP.out _ (six_belO _ _ _ _ _ _ HOI.out.bel (HOI.out.z _ rfl).1)
      clear hK K
      try simp only [List.setIfInBounds_toArray, List.set_cons_zero, List.set_cons_succ]
      refine wpAnyH_done (by kernel_rfl) ?_ _
      clear hHeld z0 z1 z2 z3 z4 z5 zf zc
      go_wp2_with fail
      go_meet
      case rel => exact ⟨X, a9, c9, a17, c17, a21, c21, rfl, wy, HOI.out, rfl⟩
    have st21111 : ∀ (g6 : Nat) (a9 : Option Addr) (c9 : Nat) (g14 : Nat) (a17 : Option Addr) (c17 : Nat) (g18 : Nat) (X : Nat) wx, OI w2 wx (.slice a9 nd c9) nd XD (.slice a17 ny c17) ny XY (.slice (some ⟨g18, 0, none⟩) 0 0) 0 [] (some X) → G 3 #[true, true, true, true, true, true, true, true, true, true, true, true, true, true, true, false, false, true, false] ⟨#[rpV ag n cg ad nd cd ld ep ay ny cy ac nc cc, .pointer (some ⟨w.heap.size, 0, none⟩), .pointer (some ⟨w.heap.size + 1, 0, none⟩), .pointer (some ⟨X, 0, none⟩), undef, undef, .slice (some ⟨g6, 0, none⟩) 0 0, .pointer (some ⟨w.heap.size, 1, none⟩), .slice ad nd cd, .slice a9 nd c9, .pointer (some ⟨w.heap.size, 2, none⟩), .int .i64 ld, .pointer (some ⟨w.heap.size, 3, none⟩), .int .i64 ep, .slice (some ⟨g14, 0, none⟩) 0 0, .pointer (some ⟨w.heap.size, 4, none⟩), .slice ay ny cy, .slice a17 ny c17, .slice (some ⟨g18, 0, none⟩) 0 0, .pointer (some ⟨w.heap.size, 5, none⟩), .slice ac nc cc, undef, undef, undef, undef, undef, undef, undef, undef, undef, undef, undef, undef, undef, undef, undef, undef, undef, undef, undef], []⟩ wx := by
      intro g6 a9 c9 g14 a17 c17 g18 X wx hOI
      have HOI := hide hOI
      have hSx := KEEP.out wx hOI.bel
      clear hOI
      rw [hG]
      refine wpAnyH_ready (rs := [15]) (by kernel_rfl) (by simp) ?_
      refine AllReadyH.cons rfl (fun K hK => ?_) (AllReadyH.nil)
      · skip
        simp only [List.getElem_toArray, List.getElem_cons_succ, List.getElem_cons_zero]
        rw [if_pos (by rfl)]
        refine wp_copy (.tmp 18) (.tmp 20) 30 rfl w2.heap.size 93 iIE (.agg #[.int .i64 0, .string ByteArray.empty]) 2 24 Try.underlying30 hIE1 hIE2 hIE3 hIE4 rfl (by decide) (by decide) g18 rfl HOI.out.c ac nc cc XC rfl LC.out (S_C.out _ HOI.out.bel) O_C.out (by omega) HOI.out.bel.size ?_
        intro a21 c21 w' ho' hg'
        refine hK.out _ _ ?_ (fun hHeld => ?_)
        · exact KEEP.out _ (HOI.out.appC ho' hg').bel
        have HOI' := hide (HOI.out.appC ho' hg')
        clear hK K hHeld ho' hg'
        try simp only [Act.put, List.setIfInBounds_toArray, List.set_cons_zero, List.set_cons_succ]
        rw [← hG]
        exact st31111 g6 a9 c9 g14 a17 c17 g18 a21 c21 X _ HOI'.out
    have st21110 : ∀ (g6 : Nat) (a9 : Option Addr) (c9 : Nat) (g14 : Nat) (a17 : Option Addr) (c17 : Nat) (g18 : Nat) wx, OI w2 wx (.slice a9 nd c9) nd XD (.slice a17 ny c17) ny XY (.slice (some ⟨g18, 0, none⟩) 0 0) 0 [] none → G 4 #[true, true, true, true, true, true, true, true, true, true, true, true, true, true, true, false, false, false, false] ⟨#[rpV ag n cg ad nd cd ld ep ay ny cy ac nc cc, .pointer (some ⟨w.heap.size, 0, none⟩), .pointer (some ⟨w.heap.size + 1, 0, none⟩), undef, undef, undef, .slice (some ⟨g6, 0, none⟩) 0 0, .pointer (some ⟨w.heap.size, 1, none⟩), .slice ad nd cd, .slice a9 nd c9, .pointer (some ⟨w.heap.size, 2, none⟩), .int .i64 ld, .pointer (some ⟨w.heap.size, 3, none⟩), .int .i64 ep, .slice (some ⟨g14, 0, none⟩) 0 0, .pointer (some ⟨w.heap.size, 4, none⟩), .slice ay ny cy, .slice a17 ny c17, .slice (some ⟨g18, 0, none⟩) 0 0, .pointer (some ⟨w.heap.size, 5, none⟩), .slice ac nc cc, undef, undef, undef, undef, undef, undef, undef, undef, undef, undef, undef, undef, undef, undef, undef, undef, undef, undef, undef], []⟩ wx := by
      intro g6 a9 c9 g14 a17 c17 g18 wx hOI
      have HOI := hide hOI
      have hSx := KEEP.out wx hOI.bel
      clear hOI
      rw [hG]
      refine wpAnyH_ready (rs := [15, 17]) (by kernel_rfl) (by simp) ?_
      refine AllReadyH.cons rfl (fun K hK => ?_) (AllReadyH.cons rfl (fun K hK => ?_) (AllReadyH.nil))
      · skip
        simp only [List.getElem_toArray, List.getElem_cons_succ, List.getElem_cons_zero]
        rw [if_pos (by rfl)]
        refine wp_copy (.tmp 18) (.tmp 20) 30 rfl w2.heap.size 93 iIE (.agg #[.int .i64 0, .string ByteArray.empty]) 2 24 Try.underlying30 hIE1 hIE2 hIE3 hIE4 rfl (by decide) (by decide) g18 rfl HOI.out.c ac nc cc XC rfl LC.out (S_C.out _ HOI.out.bel) O_C.out (by omega) HOI.out.bel.size ?_
        intro a21 c21 w' ho' hg'
        refine hK.out _ _ ?_ (fun hHeld => ?_)
        · exact KEEP.out _ (HOI.out.appC ho' hg').bel
        have HOI' := hide (HOI.out.appC ho' hg')
        clear hK K hHeld ho' hg'
        try simp only [Act.put, List.setIfInBounds_toArray, List.set_cons_zero, List.set_cons_succ]
        rw [← hG]
        exact st31110 g6 a9 c9 g14 a17 c17 g18 a21 c21 _ HOI'.out
      · skip
        simp only [List.getElem_toArray, List.getElem_cons_succ, List.getElem_cons_zero]
        go_simp
        refine hK.out _ _ ?_ (fun hHeld => ?_)
        · exact KEEP.out _ HOI.out.box.bel
        clear hK K hHeld
        try simp only [List.setIfInBounds_toArray, List.set_cons_zero, List.set_cons_succ]
        rw [← hG]
        exact st21111 g6 a9 c9 g14 a17 c17 g18 _ _ HOI.out.box
    have st21101 : ∀ (g6 : Nat) (a9 : Option Addr) (c9 : Nat) (g14 : Nat) (a17 : Option Addr) (c17 : Nat) (X : Nat) wx, OI w2 wx (.slice a9 nd c9) nd XD (.slice a17 ny c17) ny XY nilV 0 [] (some X) → G 4 #[true, true, true, true, true, true, true, true, true, true, true, true, false, true, true, false, false, true, false] ⟨#[rpV ag n cg ad nd cd ld ep ay ny cy ac nc cc, .pointer (some ⟨w.heap.size, 0, none⟩), .pointer (some ⟨w.heap.size + 1, 0, none⟩), .pointer (some ⟨X, 0, none⟩), undef, undef, .slice (some ⟨g6, 0, none⟩) 0 0, .pointer (some ⟨w.heap.size, 1, none⟩), .slice ad nd cd, .slice a9 nd c9, .pointer (some ⟨w.heap.size, 2, none⟩), .int .i64 ld, .pointer (some ⟨w.heap.size, 3, none⟩), .int .i64 ep, .slice (some ⟨g14, 0, none⟩) 0 0, .pointer (some ⟨w.heap.size, 4, none⟩), .slice ay ny cy, .slice a17 ny c17, undef, .pointer (some ⟨w.heap.size, 5, none⟩), .slice ac nc cc, undef, undef, undef, undef, undef, undef, undef, undef, undef, undef, undef, undef, undef, undef, undef, undef, undef, undef, undef], []⟩ wx := by
      intro g6 a9 c9 g14 a17 c17 X wx hOI
      have HOI := hide hOI
      have hSx := KEEP.out wx hOI.bel
      clear hOI
      rw [hG]
      refine wpAnyH_ready (rs := [12]) (by kernel_rfl) (by simp) ?_
      refine AllReadyH.cons rfl (fun K hK => ?_) (AllReadyH.nil)
      · skip
        simp only [List.getElem_toArray, List.getElem_cons_succ, List.getElem_cons_zero]
        go_simp
        refine hK.out _ _ ?_ (fun hHeld => ?_)
        · exact KEEP.out _ HOI.out.emptyC.bel
        clear hK K hHeld
        try simp only [List.setIfInBounds_toArray, List.set_cons_zero, List.set_cons_succ]
        rw [← hG]
        exact st21111 g6 a9 c9 g14 a17 c17 _ X _ HOI.out.emptyC
    have st21100 : ∀ (g6 : Nat) (a9 : Option Addr) (c9 : Nat) (g14 : Nat) (a17 : Option Addr) (c17 : Nat) wx, OI w2 wx (.slice a9 nd c9) nd XD (.slice a17 ny c17) ny XY nilV 0 [] none → G 5 #[true, true, true, true, true, true, true, true, true, true, true, true, false, true, true, false, false, false, false] ⟨#[rpV ag n cg ad nd cd ld ep ay ny cy ac nc cc, .pointer (some ⟨w.heap.size, 0, none⟩), .pointer (some ⟨w.heap.size + 1, 0, none⟩), undef, undef, undef, .slice (some ⟨g6, 0, none⟩) 0 0, .pointer (some ⟨w.heap.size, 1, none⟩), .slice ad nd cd, .slice a9 nd c9, .pointer (some ⟨w.heap.size, 2, none⟩), .int .i64 ld, .pointer (some ⟨w.heap.size, 3, none⟩), .int .i64 ep, .slice (some ⟨g14, 0, none⟩) 0 0, .pointer (some ⟨w.heap.size, 4, none⟩), .slice ay ny cy, .slice a17 ny c17, undef, .pointer (some ⟨w.heap.size, 5, none⟩), .slice ac nc cc, undef, undef, undef, undef, undef, undef, undef, undef, undef, undef, undef, undef, undef, undef, undef, undef, undef, undef, undef], []⟩ wx := by
      intro g6 a9 c9 g14 a17 c17 wx hOI
      have HOI := hide hOI
      have hSx := KEEP.out wx hOI.bel
      clear hOI
      rw [hG]
      refine wpAnyH_ready (rs := [12, 17]) (by kernel_rfl) (by simp) ?_
      refine AllReadyH.cons rfl (fun K hK => ?_) (AllReadyH.cons rfl (fun K hK => ?_) (AllReadyH.nil))
      · skip
        simp only [List.getElem_toArray, List.getElem_cons_succ, List.getElem_cons_zero]
        go_simp
        refine hK.out _ _ ?_ (fun hHeld => ?_)
        · exact KEEP.out _ HOI.out.emptyC.bel
        clear hK K hHeld
        try simp only [List.setIfInBounds_toArray, List.set_cons_zero, List.set_cons_succ]
        rw [← hG]
        exact st21110 g6 a9 c9 g14 a17 c17 _ _ HOI.out.emptyC
      · skip
        simp only [List.getElem_toArray, List.getElem_cons_succ, List.getElem_cons_zero]
        go_simp
        refine hK.out _ _ ?_ (fun hHeld => ?_)
        · exact KEEP.out _ HOI.out.box.bel
        clear hK K hHeld
        try simp only [List.setIfInBounds_toArray, List.set_cons_zero, List.set_cons_succ]
        rw [← hG]
        exact st21101 g6 a9 c9 g14 a17 c17 _ _ HOI.out.box
    have st11111 : ∀ (g6 : Nat) (a9 : Option Addr) (c9 : Nat) (g14 : Nat) (g18 : Nat) (X : Nat) wx, OI w2 wx (.slice a9 nd c9) nd XD (.slice (some ⟨g14, 0, none⟩) 0 0) 0 [] (.slice (some ⟨g18, 0, none⟩) 0 0) 0 [] (some X) → G 4 #[true, true, true, true, true, true, true, true, true, true, true, false, true, true, true, false, false, true, false] ⟨#[rpV ag n cg ad nd cd ld ep ay ny cy ac nc cc, .pointer (some ⟨w.heap.size, 0, none⟩), .pointer (some ⟨w.heap.size + 1, 0, none⟩), .pointer (some ⟨X, 0, none⟩), undef, undef, .slice (some ⟨g6, 0, none⟩) 0 0, .pointer (some ⟨w.heap.size, 1, none⟩), .slice ad nd cd, .slice a9 nd c9, .pointer (some ⟨w.heap.size, 2, none⟩), .int .i64 ld, .pointer (some ⟨w.heap.size, 3, none⟩), .int .i64 ep, .slice (some ⟨g14, 0, none⟩) 0 0, .pointer (some ⟨w.heap.size, 4, none⟩), .slice ay ny cy, undef, .slice (some ⟨g18, 0, none⟩) 0 0, .pointer (some ⟨w.heap.size, 5, none⟩), .slice ac nc cc, undef, undef, undef, undef, undef, undef, undef, undef, undef, undef, undef, undef, undef, undef, undef, undef, undef, undef, undef], []⟩ wx := by
      intro g6 a9 c9 g14 g18 X wx hOI
      have HOI := hide hOI
      have hSx := KEEP.out wx hOI.bel
      clear hOI
      rw [hG]
      refine wpAnyH_ready (rs := [11]) (by kernel_rfl) (by simp) ?_
      refine AllReadyH.cons rfl (fun K hK => ?_) (AllReadyH.nil)
      · skip
        simp only [List.getElem_toArray, List.getElem_cons_succ, List.getElem_cons_zero]
        rw [if_pos (by rfl)]
        refine wp_copy (.tmp 14) (.tmp 16) 22 rfl w2.heap.size 3 iII (.int .i64 0) 1 8 Try.underlying22 hII1 hII2 hII3 hII4 rfl (by decide) (by decide) g14 rfl HOI.out.y ay ny cy XY rfl LY.out (S_Y.out _ HOI.out.bel) O_Y.out (by omega) HOI.out.bel.size ?_
        intro a17 c17 w' ho' hg'
        refine hK.out _ _ ?_ (fun hHeld => ?_)
        · exact KEEP.out _ (HOI.out.appY ho' hg').bel
        have HOI' := hide (HOI.out.appY ho' hg')
        clear hK K hHeld ho' hg'
        try simp only [Act.put, List.setIfInBounds_toArray, List.set_cons_zero, List.set_cons_succ]
        rw [← hG]
        exact st21111 g6 a9 c9 g14 a17 c17 g18 X _ HOI'.out
    have st11110 : ∀ (g6 : Nat) (a9 : Option Addr) (c9 : Nat) (g14 : Nat) (g18 : Nat) wx, OI w2 wx (.slice a9 nd c9) nd XD (.slice (some ⟨g14, 0, none⟩) 0 0) 0 [] (.slice (some ⟨g18, 0, none⟩) 0 0) 0 [] none → G 5 #[true, true, true, true, true, true, true, true, true, true, true, false, true, true, true, false, false, false, false] ⟨#[rpV ag n cg ad nd cd ld ep ay ny cy ac nc cc, .pointer (some ⟨w.heap.size, 0, none⟩), .pointer (some ⟨w.heap.size + 1, 0, none⟩), undef, undef, undef, .slice (some ⟨g6, 0, none⟩) 0 0, .pointer (some ⟨w.heap.size, 1, none⟩), .slice ad nd cd, .slice a9 nd c9, .pointer (some ⟨w.heap.size, 2, none⟩), .int .i64 ld, .pointer (some ⟨w.heap.size, 3, none⟩), .int .i64 ep, .slice (some ⟨g14, 0, none⟩) 0 0, .pointer (some ⟨w.heap.size, 4, none⟩), .slice ay ny cy, undef, .slice (some ⟨g18, 0, none⟩) 0 0, .pointer (some ⟨w.heap.size, 5, none⟩), .slice ac nc cc, undef, undef, undef, undef, undef, undef, undef, undef, undef, undef, undef, undef, undef, undef, undef, undef, undef, undef, undef], []⟩ wx := by
      intro g6 a9 c9 g14 g18 wx hOI
      have HOI := hide hOI
      have hSx := KEEP.out wx hOI.bel
      clear hOI
      rw [hG]
      refine wpAnyH_ready (rs := [11, 17]) (by kernel_rfl) (by simp) ?_
      refine AllReadyH.cons rfl (fun K hK => ?_) (AllReadyH.cons rfl (fun K hK => ?_) (AllReadyH.nil))
      · skip
        simp only [List.getElem_toArray, List.getElem_cons_succ, List.getElem_cons_zero]
        rw [if_pos (by rfl)]
        refine wp_copy (.tmp 14) (.tmp 16) 22 rfl w2.heap.size 3 iII (.int .i64 0) 1 8 Try.underlying22 hII1 hII2 hII3 hII4 rfl (by decide) (by decide) g14 rfl HOI.out.y ay ny cy XY rfl LY.out (S_Y.out _ HOI.out.bel) O_Y.out (by omega) HOI.out.bel.size ?_
        intro a17 c17 w' ho' hg'
        refine hK.out _ _ ?_ (fun hHeld => ?_)
        · exact KEEP.out _ (HOI.out.appY ho' hg').bel
        have HOI' := hide (HOI.out.appY ho' hg')
        clear hK K hHeld ho' hg'
        try simp only [Act.put, List.setIfInBounds_toArray, List.set_cons_zero, List.set_cons_succ]
        rw [← hG]
        exact st21110 g6 a9 c9 g14 a17 c17 g18 _ HOI'.out
      · skip
        simp only [List.getElem_toArray, List.getElem_cons_succ, List.getElem_cons_zero]
        go_simp
        refine hK.out _ _ ?_ (fun hHeld => ?_)
        · exact KEEP.out _ HOI.out.box.bel
        clear hK K hHeld
        try simp only [List.setIfInBounds_toArray, List.set_cons_zero, List.set_cons_succ]
        rw [← hG]
        exact st11111 g6 a9 c9 g14 g18 _ _ HOI.out.box
    have st11101 : ∀ (g6 : Nat) (a9 : Option Addr) (c9 : Nat) (g14 : Nat) (X : Nat) wx, OI w2 wx (.slice a9 nd c9) nd XD (.slice (some ⟨g14, 0, none⟩) 0 0) 0 [] nilV 0 [] (some X) → G 5 #[true, true, true, true, true, true, true, true, true, true, true, false, false, true, true, false, false, true, false] ⟨#[rpV ag n cg ad nd cd ld ep ay ny cy ac nc cc, .pointer (some ⟨w.heap.size, 0, none⟩), .pointer (some ⟨w.heap.size + 1, 0, none⟩), .pointer (some ⟨X, 0, none⟩), undef, undef, .slice (some ⟨g6, 0, none⟩) 0 0, .pointer (some ⟨w.heap.size, 1, none⟩), .slice ad nd cd, .slice a9 nd c9, .pointer (some ⟨w.heap.size, 2, none⟩), .int .i64 ld, .pointer (some ⟨w.heap.size, 3, none⟩), .int .i64 ep, .slice (some ⟨g14, 0, none⟩) 0 0, .pointer (some ⟨w.heap.size, 4, none⟩), .slice ay ny cy, undef, undef, .pointer (some ⟨w.heap.size, 5, none⟩), .slice ac nc cc, undef, undef, undef, undef, undef, undef, undef, undef, undef, undef, undef, undef, undef, undef, undef, undef, undef, undef, undef], []⟩ wx := by
      intro g6 a9 c9 g14 X wx hOI
      have HOI := hide hOI
      have hSx := KEEP.out wx hOI.bel
      clear hOI
      rw [hG]
      refine wpAnyH_ready (rs := [11, 12]) (by kernel_rfl) (by simp) ?_
      refine AllReadyH.cons rfl (fun K hK => ?_) (AllReadyH.cons rfl (fun K hK => ?_) (AllReadyH.nil))
      · skip
        simp only [List.getElem_toArray, List.getElem_cons_succ, List.getElem_cons_zero]
        rw [if_pos (by rfl)]
        refine wp_copy (.tmp 14) (.tmp 16) 22 rfl w2.heap.size 3 iII (.int .i64 0) 1 8 Try.underlying22 hII1 hII2 hII3 hII4 rfl (by decide) (by decide) g14 rfl HOI.out.y ay ny cy XY rfl LY.out (S_Y.out _ HOI.out.bel) O_Y.out (by omega) HOI.out.bel.size ?_
        intro a17 c17 w' ho' hg'
        refine hK.out _ _ ?_ (fun hHeld => ?_)
        · exact KEEP.out _ (HOI.out.appY ho' hg').bel
        have HOI' := hide (HOI.out.appY ho' hg')
        clear hK K hHeld ho' hg'
        try simp only [Act.put, List.setIfInBounds_toArray, List.set_cons_zero, List.set_cons_succ]
        rw [← hG]
        exact st21101 g6 a9 c9 g14 a17 c17 X _ HOI'.out
      · skip
        simp only [List.getElem_toArray, List.getElem_cons_succ, List.getElem_cons_zero]
        go_simp
        refine hK.out _ _ ?_ (fun hHeld => ?_)
        · exact KEEP.out _ HOI.out.emptyC.bel
        clear hK K hHeld
        try simp only [List.setIfInBounds_toArray, List.set_cons_zero, List.set_cons_succ]
        rw [← hG]
        exact st11111 g6 a9 c9 g14 _ X _ HOI.out.emptyC
    have st11100 : ∀ (g6 : Nat) (a9 : Option Addr) (c9 : Nat) (g14 : Nat) wx, OI w2 wx (.slice a9 nd c9) nd XD (.slice (some ⟨g14, 0, none⟩) 0 0) 0 [] nilV 0 [] none → G 6 #[true, true, true, true, true, true, true, true, true, true, true, false, false, true, true, false, false, false, false] ⟨#[rpV ag n cg ad nd cd ld ep ay ny cy ac nc cc, .pointer (some ⟨w.heap.size, 0, none⟩), .pointer (some ⟨w.heap.size + 1, 0, none⟩), undef, undef, undef, .slice (some ⟨g6, 0, none⟩) 0 0, .pointer (some ⟨w.heap.size, 1, none⟩), .slice ad nd cd, .slice a9 nd c9, .pointer (some ⟨w.heap.size, 2, none⟩), .int .i64 ld, .pointer (some ⟨w.heap.size, 3, none⟩), .int .i64 ep, .slice (some ⟨g14, 0, none⟩) 0 0, .pointer (some ⟨w.heap.size, 4, none⟩), .slice ay ny cy, undef, undef, .pointer (some ⟨w.heap.size, 5, none⟩), .slice ac nc cc, undef, undef, undef, undef, undef, undef, undef, undef, undef, undef, undef, undef, undef, undef, undef, undef, undef, undef, undef], []⟩ wx := by
      intro g6 a9 c9 g14 wx hOI
      have HOI := hide hOI
      have hSx := KEEP.out wx hOI.bel
      clear hOI
      rw [hG]
      refine wpAnyH_ready (rs := [11, 12, 17]) (by kernel_rfl) (by simp) ?_
      refine AllReadyH.cons rfl (fun K hK => ?_) (AllReadyH.cons rfl (fun K hK => ?_) (AllReadyH.cons rfl (fun K hK => ?_) (AllReadyH.nil)))
      · skip
        simp only [List.getElem_toArray, List.getElem_cons_succ, List.getElem_cons_zero]
        rw [if_pos (by rfl)]
        refine wp_copy (.tmp 14) (.tmp 16) 22 rfl w2.heap.size 3 iII (.int .i64 0) 1 8 Try.underlying22 hII1 hII2 hII3 hII4 rfl (by decide) (by decide) g14 rfl HOI.out.y ay ny cy XY rfl LY.out (S_Y.out _ HOI.out.bel) O_Y.out (by omega) HOI.out.bel.size ?_
        intro a17 c17 w' ho' hg'
        refine hK.out _ _ ?_ (fun hHeld => ?_)
        · exact KEEP.out _ (HOI.out.appY ho' hg').bel
        have HOI' := hide (HOI.out.appY ho' hg')
        clear hK K hHeld ho' hg'
        try simp only [Act.put, List.setIfInBounds_toArray, List.set_cons_zero, List.set_cons_succ]
        rw [← hG]
        exact st21100 g6 a9 c9 g14 a17 c17 _ HOI'.out
      · skip
        simp only [List.getElem_toArray, List.getElem_cons_succ, List.getElem_cons_zero]
        go_simp
        refine hK.out _ _ ?_ (fun hHeld => ?_)
        · exact KEEP.out _ HOI.out.emptyC.bel
        clear hK K hHeld
        try simp only [List.setIfInBounds_toArray, List.set_cons_zero, List.set_cons_succ]
        rw [← hG]
        exact st11110 g6 a9 c9 g14 _ _ HOI.out.emptyC
      · skip
        simp only [List.getElem_toArray, List.getElem_cons_succ, List.getElem_cons_zero]
        go_simp
        refine hK.out _ _ ?_ (fun hHeld => ?_)
        · exact KEEP.out _ HOI.out.box.bel
        clear hK K hHeld
        try simp only [List.setIfInBounds_toArray, List.set_cons_zero, List.set_cons_succ]
        rw [← hG]
        exact st11101 g6 a9 c9 g14 _ _ HOI.out.box
    have st11011 : ∀ (g6 : Nat) (a9 : Option Addr) (c9 : Nat) (g18 : Nat) (X : Nat) wx, OI w2 wx (.slice a9 nd c9) nd XD nilV 0 [] (.slice (some ⟨g18, 0, none⟩) 0 0) 0 [] (some X) → G 5 #[true, true, true, true, true, true, true, true, false, true, true, false, true, true, true, false, false, true, false] ⟨#[rpV ag n cg ad nd cd ld ep ay ny cy ac nc cc, .pointer (some ⟨w.heap.size, 0, none⟩), .pointer (some ⟨w.heap.size + 1, 0, none⟩), .pointer (some ⟨X, 0, none⟩), undef, undef, .slice (some ⟨g6, 0, none⟩) 0 0, .pointer (some ⟨w.heap.size, 1, none⟩), .slice ad nd cd, .slice a9 nd c9, .pointer (some ⟨w.heap.size, 2, none⟩), .int .i64 ld, .pointer (some ⟨w.heap.size, 3, none⟩), .int .i64 ep, undef, .pointer (some ⟨w.heap.size, 4, none⟩), .slice ay ny cy, undef, .slice (some ⟨g18, 0, none⟩) 0 0, .pointer (some ⟨w.heap.size, 5, none⟩), .slice ac nc cc, undef, undef, undef, undef, undef, undef, undef, undef, undef, undef, undef, undef, undef, undef, undef, undef, undef, undef, undef], []⟩ wx := by
      intro g6 a9 c9 g18 X wx hOI
      have HOI := hide hOI
      have hSx := KEEP.out wx hOI.bel
      clear hOI
      rw [hG]
      refine wpAnyH_ready (rs := [8]) (by kernel_rfl) (by simp) ?_
      refine AllReadyH.cons rfl (fun K hK => ?_) (AllReadyH.nil)
      · skip
        simp only [List.getElem_toArray, List.getElem_cons_succ, List.getElem_cons_zero]
        go_simp
        refine hK.out _ _ ?_ (fun hHeld => ?_)
        · exact KEEP.out _ HOI.out.emptyY.bel
        clear hK K hHeld
        try simp only [List.setIfInBounds_toArray, List.set_cons_zero, List.set_cons_succ]
        rw [← hG]
        exact st11111 g6 a9 c9 _ g18 X _ HOI.out.emptyY
    have st11010 : ∀ (g6 : Nat) (a9 : Option Addr) (c9 : Nat) (g18 : Nat) wx, OI w2 wx (.slice a9 nd c9) nd XD nilV 0 [] (.slice (some ⟨g18, 0, none⟩) 0 0) 0 [] none → G 6 #[true, true, true, true, true, true, true, true, false, true, true, false, true, true, true, false, false, false, false] ⟨#[rpV ag n cg ad nd cd ld ep ay ny cy ac nc cc, .pointer (some ⟨w.heap.size, 0, none⟩), .pointer (some ⟨w.heap.size + 1, 0, none⟩), undef, undef, undef, .slice (some ⟨g6, 0, none⟩) 0 0, .pointer (some ⟨w.heap.size, 1, none⟩), .slice ad nd cd, .slice a9 nd c9, .pointer (some ⟨w.heap.size, 2, none⟩), .int .i64 ld, .pointer (some ⟨w.heap.size, 3, none⟩), .int .i64 ep, undef, .pointer (some ⟨w.heap.size, 4, none⟩), .slice ay ny cy, undef, .slice (some ⟨g18, 0, none⟩) 0 0, .pointer (some ⟨w.heap.size, 5, none⟩), .slice ac nc cc, undef, undef, undef, undef, undef, undef, undef, undef, undef, undef, undef, undef, undef, undef, undef, undef, undef, undef, undef], []⟩ wx := by
      intro g6 a9 c9 g18 wx hOI
      have HOI := hide hOI
      have hSx := KEEP.out wx hOI.bel
      clear hOI
      rw [hG]
      refine wpAnyH_ready (rs := [8, 17]) (by kernel_rfl) (by simp) ?_
      refine AllReadyH.cons rfl (fun K hK => ?_) (AllReadyH.cons rfl (fun K hK => ?_) (AllReadyH.nil))
      · skip
        simp only [List.getElem_toArray, List.getElem_cons_succ, List.getElem_cons_zero]
        go_simp
        refine hK.out _ _ ?_ (fun hHeld => ?_)
        · exact KEEP.out _ HOI.out.emptyY.bel
        clear hK K hHeld
        try simp only [List.setIfInBounds_toArray, List.set_cons_zero, List.set_cons_succ]
        rw [← hG]
        exact st11110 g6 a9 c9 _ g18 _ HOI.out.emptyY
      · skip
        simp only [List.getElem_toArray, List.getElem_cons_succ, List.getElem_cons_zero]
        go_simp
        refine hK.out _ _ ?_ (fun hHeld => ?_)
        · exact KEEP.out _ HOI.out.box.bel
        clear hK K hHeld
        try simp only [List.setIfInBounds_toArray, List.set_cons_zero, List.set_cons_succ]
        rw [← hG]
        exact st11011 g6 a9 c9 g18 _ _ HOI.out.box
    have st11001 : ∀ (g6 : Nat) (a9 : Option Addr) (c9 : Nat) (X : Nat) wx, OI w2 wx (.slice a9 nd c9) nd XD nilV 0 [] nilV 0 [] (some X) → G 6 #[true, true, true, true, true, true, true, true, false, true, true, false, false, true, true, false, false, true, false] ⟨#[rpV ag n cg ad nd cd ld ep ay ny cy ac nc cc, .pointer (some ⟨w.heap.size, 0, none⟩), .pointer (some ⟨w.heap.size + 1, 0, none⟩), .pointer (some ⟨X, 0, none⟩), undef, undef, .slice (some ⟨g6, 0, none⟩) 0 0, .pointer (some ⟨w.heap.size, 1, none⟩), .slice ad nd cd, .slice a9 nd c9, .pointer (some ⟨w.heap.size, 2, none⟩), .int .i64 ld, .pointer (some ⟨w.heap.size, 3, none⟩), .int .i64 ep, undef, .pointer (some ⟨w.heap.size, 4, none⟩), .slice ay ny cy, undef, undef, .pointer (some ⟨w.heap.size, 5, none⟩), .slice ac nc cc, undef, undef, undef, undef, undef, undef, undef, undef, undef, undef, undef, undef, undef, undef, undef, undef, undef, undef, undef], []⟩ wx := by
      intro g6 a9 c9 X wx hOI
      have HOI := hide hOI
      have hSx := KEEP.out wx hOI.bel
      clear hOI
      rw [hG]
      refine wpAnyH_ready (rs := [8, 12]) (by kernel_rfl) (by simp) ?_
      refine AllReadyH.cons rfl (fun K hK => ?_) (AllReadyH.cons rfl (fun K hK => ?_) (AllReadyH.nil))
      · skip
        simp only [List.getElem_toArray, List.getElem_cons_succ, List.getElem_cons_zero]
        go_simp
        refine hK.out _ _ ?_ (fun hHeld => ?_)
        · exact KEEP.out _ HOI.out.emptyY.bel
        clear hK K hHeld
        try simp only [List.setIfInBounds_toArray, List.set_cons_zero, List.set_cons_succ]
        rw [← hG]
        exact st11101 g6 a9 c9 _ X _ HOI.out.emptyY
      · skip
        simp only [List.getElem_toArray, List.getElem_cons_succ, List.getElem_cons_zero]
        go_simp
        refine hK.out _ _ ?_ (fun hHeld => ?_)
        · exact KEEP.out _ HOI.out.emptyC.bel
        clear hK K hHeld
        try simp only [List.setIfInBounds_toArray, List.set_cons_zero, List.set_cons_succ]
        rw [← hG]
        exact st11011 g6 a9 c9 _ X _ HOI.out.emptyC
    have st11000 : ∀ (g6 : Nat) (a9 : Option Addr) (c9 : Nat) wx, OI w2 wx (.slice a9 nd c9) nd XD nilV 0 [] nilV 0 [] none → G 7 #[true, true, true, true, true, true, true, true, false, true, true, false, false, true, true, false, false, false, false] ⟨#[rpV ag n cg ad nd cd ld ep ay ny cy ac nc cc, .pointer (some ⟨w.heap.size, 0, none⟩), .pointer (some ⟨w.heap.size + 1, 0, none⟩), undef, undef, undef, .slice (some ⟨g6, 0, none⟩) 0 0, .pointer (some ⟨w.heap.size, 1, none⟩), .slice ad nd cd, .slice a9 nd c9, .pointer (some ⟨w.heap.size, 2, none⟩), .int .i64 ld, .pointer (some ⟨w.heap.size, 3, none⟩), .int .i64 ep, undef, .pointer (some ⟨w.heap.size, 4, none⟩), .slice ay ny cy, undef, undef, .pointer (some ⟨w.heap.size, 5, none⟩), .slice ac nc cc, undef, undef, undef, undef, undef, undef, undef, undef, undef, undef, undef, undef, undef, undef, undef, undef, undef, undef, undef], []⟩ wx := by
      intro g6 a9 c9 wx hOI
      have HOI := hide hOI
      have hSx := KEEP.out wx hOI.bel
      clear hOI
      rw [hG]
      refine wpAnyH_ready (rs := [8, 12, 17]) (by kernel_rfl) (by simp) ?_
      refine AllReadyH.cons rfl (fun K hK => ?_) (AllReadyH.cons rfl (fun K hK => ?_) (AllReadyH.cons rfl (fun K hK => ?_) (AllReadyH.nil)))
      · skip
        simp only [List.getElem_toArray, List.getElem_cons_succ, List.getElem_cons_zero]
        go_simp
        refine hK.out _ _ ?_ (fun hHeld => ?_)
        · exact KEEP.out _ HOI.out.emptyY.bel
        clear hK K hHeld
        try simp only [List.setIfInBounds_toArray, List.set_cons_zero, List.set_cons_succ]
        rw [← hG]
        exact st11100 g6 a9 c9 _ _ HOI.out.emptyY
      · skip
        simp only [List.getElem_toArray, List.getElem_cons_succ, List.getElem_cons_zero]
        go_simp
        refine hK.out _ _ ?_ (fun hHeld => ?_)
        · exact KEEP.out _ HOI.out.emptyC.bel
        clear hK K hHeld
        try simp only [List.setIfInBounds_toArray, List.set_cons_zero, List.set_cons_succ]
        rw [← hG]
        exact st11010 g6 a9 c9 _ _ HOI.out.emptyC
      · skip
        simp only [List.getElem_toArray, List.getElem_cons_succ, List.getElem_cons_zero]
        go_simp
        refine hK.out _ _ ?_ (fun hHeld => ?_)
        · exact KEEP.out _ HOI.out.box.bel
        clear hK K hHeld
        try simp only [List.setIfInBounds_toArray, List.set_cons_zero, List.set_cons_succ]
        rw [← hG]
        exact st11001 g6 a9 c9 _ _ HOI.out.box
    have st01111 : ∀ (g6 : Nat) (g14 : Nat) (g18 : Nat) (X : Nat) wx, OI w2 wx (.slice (some ⟨g6, 0, none⟩) 0 0) 0 [] (.slice (some ⟨g14, 0, none⟩) 0 0) 0 [] (.slice (some ⟨g18, 0, none⟩) 0 0) 0 [] (some X) → G 5 #[true, true, true, false, true, true, true, true, true, true, true, false, true, true, true, false, false, true, false] ⟨#[rpV ag n cg ad nd cd ld ep ay ny cy ac nc cc, .pointer (some ⟨w.heap.size, 0, none⟩), .pointer (some ⟨w.heap.size + 1, 0, none⟩), .pointer (some ⟨X, 0, none⟩), undef, undef, .slice (some ⟨g6, 0, none⟩) 0 0, .pointer (some ⟨w.heap.size, 1, none⟩), .slice ad nd cd, undef, .pointer (some ⟨w.heap.size, 2, none⟩), .int .i64 ld, .pointer (some ⟨w.heap.size, 3, none⟩), .int .i64 ep, .slice (some ⟨g14, 0, none⟩) 0 0, .pointer (some ⟨w.heap.size, 4, none⟩), .slice ay ny cy, undef, .slice (some ⟨g18, 0, none⟩) 0 0, .pointer (some ⟨w.heap.size, 5, none⟩), .slice ac nc cc, undef, undef, undef, undef, undef, undef, undef, undef, undef, undef, undef, undef, undef, undef, undef, undef, undef, undef, undef], []⟩ wx := by
      intro g6 g14 g18 X wx hOI
      have HOI := hide hOI
      have hSx := KEEP.out wx hOI.bel
      clear hOI
      rw [hG]
      refine wpAnyH_ready (rs := [3]) (by kernel_rfl) (by simp) ?_
      refine AllReadyH.cons rfl (fun K hK => ?_) (AllReadyH.nil)
      · skip
        simp only [List.getElem_toArray, List.getElem_cons_succ, List.getElem_cons_zero]
        rw [if_pos (by rfl)]
        refine wp_copy (.tmp 6) (.tmp 8) 29 rfl w2.heap.size 4 iIB (.bool false) 1 1 Try.underlying29 hIB1 hIB2 hIB3 hIB4 rfl (by decide) (by decide) g6 rfl HOI.out.d ad nd cd XD rfl LD.out (S_D.out _ HOI.out.bel) O_D.out (by omega) HOI.out.bel.size ?_
        intro a9 c9 w' ho' hg'
        refine hK.out _ _ ?_ (fun hHeld => ?_)
        · exact KEEP.out _ (HOI.out.appD ho' hg').bel
        have HOI' := hide (HOI.out.appD ho' hg')
        clear hK K hHeld ho' hg'
        try simp only [Act.put, List.setIfInBounds_toArray, List.set_cons_zero, List.set_cons_succ]
        rw [← hG]
        exact st11111 g6 a9 c9 g14 g18 X _ HOI'.out
    have st01110 : ∀ (g6 : Nat) (g14 : Nat) (g18 : Nat) wx, OI w2 wx (.slice (some ⟨g6, 0, none⟩) 0 0) 0 [] (.slice (some ⟨g14, 0, none⟩) 0 0) 0 [] (.slice (some ⟨g18, 0, none⟩) 0 0) 0 [] none → G 6 #[true, true, true, false, true, true, true, true, true, true, true, false, true, true, true, false, false, false, false] ⟨#[rpV ag n cg ad nd cd ld ep ay ny cy ac nc cc, .pointer (some ⟨w.heap.size, 0, none⟩), .pointer (some ⟨w.heap.size + 1, 0, none⟩), undef, undef, undef, .slice (some ⟨g6, 0, none⟩) 0 0, .pointer (some ⟨w.heap.size, 1, none⟩), .slice ad nd cd, undef, .pointer (some ⟨w.heap.size, 2, none⟩), .int .i64 ld, .pointer (some ⟨w.heap.size, 3, none⟩), .int .i64 ep, .slice (some ⟨g14, 0, none⟩) 0 0, .pointer (some ⟨w.heap.size, 4, none⟩), .slice ay ny cy, undef, .slice (some ⟨g18, 0, none⟩) 0 0, .pointer (some ⟨w.heap.size, 5, none⟩), .slice ac nc cc, undef, undef, undef, undef, undef, undef, undef, undef, undef, undef, undef, undef, undef, undef, undef, undef, undef, undef, undef], []⟩ wx := by
      intro g6 g14 g18 wx hOI
      have HOI := hide hOI
      have hSx := KEEP.out wx hOI.bel
      clear hOI
      rw [hG]
      refine wpAnyH_ready (rs := [3, 17]) (by kernel_rfl) (by simp) ?_
      refine AllReadyH.cons rfl (fun K hK => ?_) (AllReadyH.cons rfl (fun K hK => ?_) (AllReadyH.nil))
      · skip
        simp only [List.getElem_toArray, List.getElem_cons_succ, List.getElem_cons_zero]
        rw [if_pos (by rfl)]
        refine wp_copy (.tmp 6) (.tmp 8) 29 rfl w2.heap.size 4 iIB (.bool false) 1 1 Try.underlying29 hIB1 hIB2 hIB3 hIB4 rfl (by decide) (by decide) g6 rfl HOI.out.d ad nd cd XD rfl LD.out (S_D.out _ HOI.out.bel) O_D.out (by omega) HOI.out.bel.size ?_
        intro a9 c9 w' ho' hg'
        refine hK.out _ _ ?_ (fun hHeld => ?_)
        · exact KEEP.out _ (HOI.out.appD ho' hg').bel
        have HOI' := hide (HOI.out.appD ho' hg')
        clear hK K hHeld ho' hg'
        try simp only [Act.put, List.setIfInBounds_toArray, List.set_cons_zero, List.set_cons_succ]
        rw [← hG]
        exact st11110 g6 a9 c9 g14 g18 _ HOI'.out
      · skip
        simp only [List.getElem_toArray, List.getElem_cons_succ, List.getElem_cons_zero]
        go_simp
        refine hK.out _ _ ?_ (fun hHeld => ?_)
        · exact KEEP.out _ HOI.out.box.bel
        clear hK K hHeld
        try simp only [List.setIfInBounds_toArray, List.set_cons_zero, List.set_cons_succ]
        rw [← hG]
        exact st01111 g6 g14 g18 _ _ HOI.out.box
    have st01101 : ∀ (g6 : Nat) (g14 : Nat) (X : Nat) wx, OI w2 wx (.slice (some ⟨g6, 0, none⟩) 0 0) 0 [] (.slice (some ⟨g14, 0, none⟩) 0 0) 0 [] nilV 0 [] (some X) → G 6 #[true, true, true, false, true, true, true, true, true, true, true, false, false, true, true, false, false, true, false] ⟨#[rpV ag n cg ad nd cd ld ep ay ny cy ac nc cc, .pointer (some ⟨w.heap.size, 0, none⟩), .pointer (some ⟨w.heap.size + 1, 0, none⟩), .pointer (some ⟨X, 0, none⟩), undef, undef, .slice (some ⟨g6, 0, none⟩) 0 0, .pointer (some ⟨w.heap.size, 1, none⟩), .slice ad nd cd, undef, .pointer (some ⟨w.heap.size, 2, none⟩), .int .i64 ld, .pointer (some ⟨w.heap.size, 3, none⟩), .int .i64 ep, .slice (some ⟨g14, 0, none⟩) 0 0, .pointer (some ⟨w.heap.size, 4, none⟩), .slice ay ny cy, undef, undef, .pointer (some ⟨w.heap.size, 5, none⟩), .slice ac nc cc, undef, undef, undef, undef, undef, undef, undef, undef, undef, undef, undef, undef, undef, undef, undef, undef, undef, undef, undef], []⟩ wx := by
      intro g6 g14 X wx hOI
      have HOI := hide hOI
      have hSx := KEEP.out wx hOI.bel
      clear hOI
      rw [hG]
      refine wpAnyH_ready (rs := [3, 12]) (by kernel_rfl) (by simp) ?_
      refine AllReadyH.cons rfl (fun K hK => ?_) (AllReadyH.cons rfl (fun K hK => ?_) (AllReadyH.nil))
      · skip
        simp only [List.getElem_toArray, List.getElem_cons_succ, List.getElem_cons_zero]
        rw [if_pos (by rfl)]
        refine wp_copy (.tmp 6) (.tmp 8) 29 rfl w2.heap.size 4 iIB (.bool false) 1 1 Try.underlying29 hIB1 hIB2 hIB3 hIB4 rfl (by decide) (by decide) g6 rfl HOI.out.d ad nd cd XD rfl LD.out (S_D.out _ HOI.out.bel) O_D.out (by omega) HOI.out.bel.size ?_
        intro a9 c9 w' ho' hg'
        refine hK.out _ _ ?_ (fun hHeld => ?_)
        · exact KEEP.out _ (HOI.out.appD ho' hg').bel
        have HOI' := hide (HOI.out.appD ho' hg')
        clear hK K hHeld ho' hg'
        try simp only [Act.put, List.setIfInBounds_toArray, List.set_cons_zero, List.set_cons_succ]
        rw [← hG]
        exact st11101 g6 a9 c9 g14 X _ HOI'.out
      · skip
        simp only [List.getElem_toArray, List.getElem_cons_succ, List.getElem_cons_zero]
        go_simp
        refine hK.out _ _ ?_ (fun hHeld => ?_)
        · exact KEEP.out _ HOI.out.emptyC.bel
        clear hK K hHeld
        try simp only [List.setIfInBounds_toArray, List.set_cons_zero, List.set_cons_succ]
        rw [← hG]
        exact st01111 g6 g14 _ X _ HOI.out.emptyC
    have st01100 : ∀ (g6 : Nat) (g14 : Nat) wx, OI w2 wx (.slice (some ⟨g6, 0, none⟩) 0 0) 0 [] (.slice (some ⟨g14, 0, none⟩) 0 0) 0 [] nilV 0 [] none → G 7 #[true, true, true, false, true, true, true, true, true, true, true, false, false, true, true, false, false, false, false] ⟨#[rpV ag n cg ad nd cd ld ep ay ny cy ac nc cc, .pointer (some ⟨w.heap.size, 0, none⟩), .pointer (some ⟨w.heap.size + 1, 0, none⟩), undef, undef, undef, .slice (some ⟨g6, 0, none⟩) 0 0, .pointer (some ⟨w.heap.size, 1, none⟩), .slice ad nd cd, undef, .pointer (some ⟨w.heap.size, 2, none⟩), .int .i64 ld, .pointer (some ⟨w.heap.size, 3, none⟩), .int .i64 ep, .slice (some ⟨g14, 0, none⟩) 0 0, .pointer (some ⟨w.heap.size, 4, none⟩), .slice ay ny cy, undef, undef, .pointer (some ⟨w.heap.size, 5, none⟩), .slice ac nc cc, undef, undef, undef, undef, undef, undef, undef, undef, undef, undef, undef, undef, undef, undef, undef, undef, undef, undef, undef], []⟩ wx := by
      intro g6 g14 wx hOI
      have HOI := hide hOI
      have hSx := KEEP.out wx hOI.bel
      clear hOI
      rw [hG]
      refine wpAnyH_ready (rs := [3, 12, 17]) (by kernel_rfl) (by simp) ?_
      refine AllReadyH.cons rfl (fun K hK => ?_) (AllReadyH.cons rfl (fun K hK => ?_) (AllReadyH.cons rfl (fun K hK => ?_) (AllReadyH.nil)))
      · skip
        simp only [List.getElem_toArray, List.getElem_cons_succ, List.getElem_cons_zero]
        rw [if_pos (by rfl)]
        refine wp_copy (.tmp 6) (.tmp 8) 29 rfl w2.heap.size 4 iIB (.bool false) 1 1 Try.underlying29 hIB1 hIB2 hIB3 hIB4 rfl (by decide) (by decide) g6 rfl HOI.out.d ad nd cd XD rfl LD.out (S_D.out _ HOI.out.bel) O_D.out (by omega) HOI.out.bel.size ?_
        intro a9 c9 w' ho' hg'
        refine hK.out _ _ ?_ (fun hHeld => ?_)
        · exact KEEP.out _ (HOI.out.appD ho' hg').bel
        have HOI' := hide (HOI.out.appD ho' hg')
        clear hK K hHeld ho' hg'
        try simp only [Act.put, List.setIfInBounds_toArray, List.set_cons_zero, List.set_cons_succ]
        rw [← hG]
        exact st11100 g6 a9 c9 g14 _ HOI'.out
      · skip
        simp only [List.getElem_toArray, List.getElem_cons_succ, List.getElem_cons_zero]
        go_simp
        refine hK.out _ _ ?_ (fun hHeld => ?_)
        · exact KEEP.out _ HOI.out.emptyC.bel
        clear hK K hHeld
        try simp only [List.setIfInBounds_toArray, List.set_cons_zero, List.set_cons_succ]
        rw [← hG]
        exact st01110 g6 g14 _ _ HOI.out.emptyC
      · skip
        simp only [List.getElem_toArray, List.getElem_cons_succ, List.getElem_cons_zero]
        go_simp
        refine hK.out _ _ ?_ (fun hHeld => ?_)
        · exact KEEP.out _ HOI.out.box.bel
        clear hK K hHeld
        try simp only [List.setIfInBounds_toArray, List.set_cons_zero, List.set_cons_succ]
        rw [← hG]
        exact st01101 g6 g14 _ _ HOI.out.box
    have st01011 : ∀ (g6 : Nat) (g18 : Nat) (X : Nat) wx, OI w2 wx (.slice (some ⟨g6, 0, none⟩) 0 0) 0 [] nilV 0 [] (.slice (some ⟨g18, 0, none⟩) 0 0) 0 [] (some X) → G 6 #[true, true, true, false, true, true, true, true, false, true, true, false, true, true, true, false, false, true, false] ⟨#[rpV ag n cg ad nd cd ld ep ay ny cy ac nc cc, .pointer (some ⟨w.heap.size, 0, none⟩), .pointer (some ⟨w.heap.size + 1, 0, none⟩), .pointer (some ⟨X, 0, none⟩), undef, undef, .slice (some ⟨g6, 0, none⟩) 0 0, .pointer (some ⟨w.heap.size, 1, none⟩), .slice ad nd cd, undef, .pointer (some ⟨w.heap.size, 2, none⟩), .int .i64 ld, .pointer (some ⟨w.heap.size, 3, none⟩), .int .i64 ep, undef, .pointer (some ⟨w.heap.size, 4, none⟩), .slice ay ny cy, undef, .slice (some ⟨g18, 0, none⟩) 0 0, .pointer (some ⟨w.heap.size, 5, none⟩), .slice ac nc cc, undef, undef, undef, undef, undef, undef, undef, undef, undef, undef, undef, undef, undef, undef, undef, undef, undef, undef, undef], []⟩ wx := by
      intro g6 g18 X wx hOI
      have HOI := hide hOI
      have hSx := KEEP.out wx hOI.bel
      clear hOI
      rw [hG]
      refine wpAnyH_ready (rs := [3, 8]) (by kernel_rfl) (by simp) ?_
      refine AllReadyH.cons rfl (fun K hK => ?_) (AllReadyH.cons rfl (fun K hK => ?_) (AllReadyH.nil))
      · skip
        simp only [List.getElem_toArray, List.getElem_cons_succ, List.getElem_cons_zero]
        rw [if_pos (by rfl)]
        refine wp_copy (.tmp 6) (.tmp 8) 29 rfl w2.heap.size 4 iIB (.bool false) 1 1 Try.underlying29 hIB1 hIB2 hIB3 hIB4 rfl (by decide) (by decide) g6 rfl HOI.out.d ad nd cd XD rfl LD.out (S_D.out _ HOI.out.bel) O_D.out (by omega) HOI.out.bel.size ?_
        intro a9 c9 w' ho' hg'
        refine hK.out _ _ ?_ (fun hHeld => ?_)
        · exact KEEP.out _ (HOI.out.appD ho' hg').bel
        have HOI' := hide (HOI.out.appD ho' hg')
        clear hK K hHeld ho' hg'
        try simp only [Act.put, List.setIfInBounds_toArray, List.set_cons_zero, List.set_cons_succ]
        rw [← hG]
        exact st11011 g6 a9 c9 g18 X _ HOI'.out
      · skip
        simp only [List.getElem_toArray, List.getElem_cons_succ, List.getElem_cons_zero]
        go_simp
        refine hK.out _ _ ?_ (fun hHeld => ?_)
        · exact KEEP.out _ HOI.out.emptyY.bel
        clear hK K hHeld
        try simp only [List.setIfInBounds_toArray, List.set_cons_zero, List.set_cons_succ]
        rw [← hG]
        exact st01111 g6 _ g18 X _ HOI.out.emptyY
    have st01010 : ∀ (g6 : Nat) (g18 : Nat) wx, OI w2 wx (.slice (some ⟨g6, 0, none⟩) 0 0) 0 [] nilV 0 [] (.slice (some ⟨g18, 0, none⟩) 0 0) 0 [] none → G 7 #[true, true, true, false, true, true, true, true, false, true, true, false, true, true, true, false, false, false, false] ⟨#[rpV ag n cg ad nd cd ld ep ay ny cy ac nc cc, .pointer (some ⟨w.heap.size, 0, none⟩), .pointer (some ⟨w.heap.size + 1, 0, none⟩), undef, undef, undef, .slice (some ⟨g6, 0, none⟩) 0 0, .pointer (some ⟨w.heap.size, 1, none⟩), .slice ad nd cd, undef, .pointer (some ⟨w.heap.size, 2, none⟩), .int .i64 ld, .pointer (some ⟨w.heap.size, 3, none⟩), .int .i64 ep, undef, .pointer (some ⟨w.heap.size, 4, none⟩), .slice ay ny cy, undef, .slice (some ⟨g18, 0, none⟩) 0 0, .pointer (some ⟨w.heap.size, 5, none⟩), .slice ac nc cc, undef, undef, undef, undef, undef, undef, undef, undef, undef, undef, undef, undef, undef, undef, undef, undef, undef, undef, undef], []⟩ wx := by
      intro g6 g18 wx hOI
      have HOI := hide hOI
      have hSx := KEEP.out wx hOI.bel
      clear hOI
      rw [hG]
      refine wpAnyH_ready (rs := [3, 8, 17]) (by kernel_rfl) (by simp) ?_
      refine AllReadyH.cons rfl (fun K hK => ?_) (AllReadyH.cons rfl (fun K hK => ?_) (AllReadyH.cons rfl (fun K hK => ?_) (AllReadyH.nil)))
      · skip
        simp only [List.getElem_toArray, List.getElem_cons_succ, List.getElem_cons_zero]
        rw [if_pos (by rfl)]
        refine wp_copy (.tmp 6) (.tmp 8) 29 rfl w2.heap.size 4 iIB (.bool false) 1 1 Try.underlying29 hIB1 hIB2 hIB3 hIB4 rfl (by decide) (by decide) g6 rfl HOI.out.d ad nd cd XD rfl LD.out (S_D.out _ HOI.out.bel) O_D.out (by omega) HOI.out.bel.size ?_
        intro a9 c9 w' ho' hg'
        refine hK.out _ _ ?_ (fun hHeld => ?_)
        · exact KEEP.out _ (HOI.out.appD ho' hg').bel
        have HOI' := hide (HOI.out.appD ho' hg')
        clear hK K hHeld ho' hg'
        try simp only [Act.put, List.setIfInBounds_toArray, List.set_cons_zero, List.set_cons_succ]
        rw [← hG]
        exact st11010 g6 a9 c9 g18 _ HOI'.out
      · skip
        simp only [List.getElem_toArray, List.getElem_cons_succ, List.getElem_cons_zero]
        go_simp
        refine hK.out _ _ ?_ (fun hHeld => ?_)
        · exact KEEP.out _ HOI.out.emptyY.bel
        clear hK K hHeld
        try simp only [List.setIfInBounds_toArray, List.set_cons_zero, List.set_cons_succ]
        rw [← hG]
        exact st01110 g6 _ g18 _ HOI.out.emptyY
      · skip
        simp only [List.getElem_toArray, List.getElem_cons_succ, List.getElem_cons_zero]
        go_simp
        refine hK.out _ _ ?_ (fun hHeld => ?_)
        · exact KEEP.out _ HOI.out.box.bel
        clear hK K hHeld
        try simp only [List.setIfInBounds_toArray, List.set_cons_zero, List.set_cons_succ]
        rw [← hG]
        exact st01011 g6 g18 _ _ HOI.out.box
    have st01001 : ∀ (g6 : Nat) (X : Nat) wx, OI w2 wx (.slice (some ⟨g6, 0, none⟩) 0 0) 0 [] nilV 0 [] nilV 0 [] (some X) → G 7 #[true, true, true, false, true, true, true, true, false, true, true, false, false, true, true, false, false, true, false] ⟨#[rpV ag n cg ad nd cd ld ep ay ny cy ac nc cc, .pointer (some ⟨w.heap.size, 0, none⟩), .pointer (some ⟨w.heap.size + 1, 0, none⟩), .pointer (some ⟨X, 0, none⟩), undef, undef, .slice (some ⟨g6, 0, none⟩) 0 0, .pointer (some ⟨w.heap.size, 1, none⟩), .slice ad nd cd, undef, .pointer (some ⟨w.heap.size, 2, none⟩), .int .i64 ld, .pointer (some ⟨w.heap.size, 3, none⟩), .int .i64 ep, undef, .pointer (some ⟨w.heap.size, 4, none⟩), .slice ay ny cy, undef, undef, .pointer (some ⟨w.heap.size, 5, none⟩), .slice ac nc cc, undef, undef, undef, undef, undef, undef, undef, undef, undef, undef, undef, undef, undef, undef, undef, undef, undef, undef, undef], []⟩ wx := by
      intro g6 X wx hOI
      have HOI := hide hOI
      have hSx := KEEP.out wx hOI.bel
      clear hOI
      rw [hG]
      refine wpAnyH_ready (rs := [3, 8, 12]) (by kernel_rfl) (by simp) ?_
      refine AllReadyH.cons rfl (fun K hK => ?_) (AllReadyH.cons rfl (fun K hK => ?_) (AllReadyH.cons rfl (fun K hK => ?_) (AllReadyH.nil)))
      · skip
        simp only [List.getElem_toArray, List.getElem_cons_succ, List.getElem_cons_zero]
        rw [if_pos (by rfl)]
        refine wp_copy (.tmp 6) (.tmp 8) 29 rfl w2.heap.size 4 iIB (.bool false) 1 1 Try.underlying29 hIB1 hIB2 hIB3 hIB4 rfl (by decide) (by decide) g6 rfl HOI.out.d ad nd cd XD rfl LD.out (S_D.out _ HOI.out.bel) O_D.out (by omega) HOI.out.bel.size ?_
        intro a9 c9 w' ho' hg'
        refine hK.out _ _ ?_ (fun hHeld => ?_)
        · exact KEEP.out _ (HOI.out.appD ho' hg').bel
        have HOI' := hide (HOI.out.appD ho' hg')
        clear hK K hHeld ho' hg'
        try simp only [Act.put, List.setIfInBounds_toArray, List.set_cons_zero, List.set_cons_succ]
        rw [← hG]
        exact st11001 g6 a9 c9 X _ HOI'.out
      · skip
        simp only [List.getElem_toArray, List.getElem_cons_succ, List.getElem_cons_zero]
        go_simp
        refine hK.out _ _ ?_ (fun hHeld => ?_)
        · exact KEEP.out _ HOI.out.emptyY.bel
        clear hK K hHeld
        try simp only [List.setIfInBounds_toArray, List.set_cons_zero, List.set_cons_succ]
        rw [← hG]
        exact st01101 g6 _ X _ HOI.out.emptyY
      · skip
        simp only [List.getElem_toArray, List.getElem_cons_succ, List.getElem_cons_zero]
        go_simp
        refine hK.out _ _ ?_ (fun hHeld => ?_)
        · exact KEEP.out _ HOI.out.emptyC.bel
        clear hK K hHeld
        try simp only [List.setIfInBounds_toArray, List.set_cons_zero, List.set_cons_succ]
        rw [← hG]
        exact st01011 g6 _ X _ HOI.out.emptyC
    have st01000 : ∀ (g6 : Nat) wx, OI w2 wx (.slice (some ⟨g6, 0, none⟩) 0 0) 0 [] nilV 0 [] nilV 0 [] none → G 8 #[true, true, true, false, true, true, true, true, false, true, true, false, false, true, true, false, false, false, false] ⟨#[rpV ag n cg ad nd cd ld ep ay ny cy ac nc cc, .pointer (some ⟨w.heap.size, 0, none⟩), .pointer (some ⟨w.heap.size + 1, 0, none⟩), undef, undef, undef, .slice (some ⟨g6, 0, none⟩) 0 0, .pointer (some ⟨w.heap.size, 1, none⟩), .slice ad nd cd, undef, .pointer (some ⟨w.heap.size, 2, none⟩), .int .i64 ld, .pointer (some ⟨w.heap.size, 3, none⟩), .int .i64 ep, undef, .pointer (some ⟨w.heap.size, 4, none⟩), .slice ay ny cy, undef, undef, .pointer (some ⟨w.heap.size, 5, none⟩), .slice ac nc cc, undef, undef, undef, undef, undef, undef, undef, undef, undef, undef, undef, undef, undef, undef, undef, undef, undef, undef, undef], []⟩ wx := by
      intro g6 wx hOI
      have HOI := hide hOI
      have hSx := KEEP.out wx hOI.bel
      clear hOI
      rw [hG]
      refine wpAnyH_ready (rs := [3, 8, 12, 17]) (by kernel_rfl) (by simp) ?_
      refine AllReadyH.cons rfl (fun K hK => ?_) (AllReadyH.cons rfl (fun K hK => ?_) (AllReadyH.cons rfl (fun K hK => ?_) (AllReadyH.cons rfl (fun K hK => ?_) (AllReadyH.nil))))
      · skip
        simp only [List.getElem_toArray, List.getElem_cons_succ, List.getElem_cons_zero]
        rw [if_pos (by rfl)]
        refine wp_copy (.tmp 6) (.tmp 8) 29 rfl w2.heap.size 4 iIB (.bool false) 1 1 Try.underlying29 hIB1 hIB2 hIB3 hIB4 rfl (by decide) (by decide) g6 rfl HOI.out.d ad nd cd XD rfl LD.out (S_D.out _ HOI.out.bel) O_D.out (by omega) HOI.out.bel.size ?_
        intro a9 c9 w' ho' hg'
        refine hK.out _ _ ?_ (fun hHeld => ?_)
        · exact KEEP.out _ (HOI.out.appD ho' hg').bel
        have HOI' := hide (HOI.out.appD ho' hg')
        clear hK K hHeld ho' hg'
        try simp only [Act.put, List.setIfInBounds_toArray, List.set_cons_zero, List.set_cons_succ]
        rw [← hG]
        exact st11000 g6 a9 c9 _ HOI'.out
      · skip
        simp only [List.getElem_toArray, List.getElem_cons_succ, List.getElem_cons_zero]
        go_simp
        refine hK.out _ _ ?_ (fun hHeld => ?_)
        · exact KEEP.out _ HOI.out.emptyY.bel
        clear hK K hHeld
        try simp only [List.setIfInBounds_toArray, List.set_cons_zero, List.set_cons_succ]
        rw [← hG]
        exact st01100 g6 _ _ HOI.out.emptyY
      · skip
        simp only [List.getElem_toArray, List.getElem_cons_succ, List.getElem_cons_zero]
        go_simp
        refine hK.out _ _ ?_ (fun hHeld => ?_)
        · exact KEEP.out _ HOI.out.emptyC.bel
        clear hK K hHeld
        try simp only [List.setIfInBounds_toArray, List.set_cons_zero, List.set_cons_succ]
        rw [← hG]
        exact st01010 g6 _ _ HOI.out.emptyC
      · skip
        simp only [List.getElem_toArray, List.getElem_cons_succ, List.getElem_cons_zero]
        go_simp
        refine hK.out _ _ ?_ (fun hHeld => ?_)
        · exact KEEP.out _ HOI.out.box.bel
        clear hK K hHeld
        try simp only [List.setIfInBounds_toArray, List.set_cons_zero, List.set_cons_succ]
        rw [← hG]
        exact st01001 g6 _ _ HOI.out.box
    have st00111 : ∀ (g14 : Nat) (g18 : Nat) (X : Nat) wx, OI w2 wx nilV 0 [] (.slice (some ⟨g14, 0, none⟩) 0 0) 0 [] (.slice (some ⟨g18, 0, none⟩) 0 0) 0 [] (some X) → G 6 #[false, true, true, false, true, true, true, true, true, true, true, false, true, true, true, false, false, true, false] ⟨#[rpV ag n cg ad nd cd ld ep ay ny cy ac nc cc, .pointer (some ⟨w.heap.size, 0, none⟩), .pointer (some ⟨w.heap.size + 1, 0, none⟩), .pointer (some ⟨X, 0, none⟩), undef, undef, undef, .pointer (some ⟨w.heap.size, 1, none⟩), .slice ad nd cd, undef, .pointer (some ⟨w.heap.size, 2, none⟩), .int .i64 ld, .pointer (some ⟨w.heap.size, 3, none⟩), .int .i64 ep, .slice (some ⟨g14, 0, none⟩) 0 0, .pointer (some ⟨w.heap.size, 4, none⟩), .slice ay ny cy, undef, .slice (some ⟨g18, 0, none⟩) 0 0, .pointer (some ⟨w.heap.size, 5, none⟩), .slice ac nc cc, undef, undef, undef, undef, undef, undef, undef, undef, undef, undef, undef, undef, undef, undef, undef, undef, undef, undef, undef], []⟩ wx := by
      intro g14 g18 X wx hOI
      have HOI := hide hOI
      have hSx := KEEP.out wx hOI.bel
      clear hOI
      rw [hG]
      refine wpAnyH_ready (rs := [0]) (by kernel_rfl) (by simp) ?_
      refine AllReadyH.cons rfl (fun K hK => ?_) (AllReadyH.nil)
      · skip
        simp only [List.getElem_toArray, List.getElem_cons_zero]
        go_simp
        refine hK.out _ _ ?_ (fun hHeld => ?_)
        · exact KEEP.out _ HOI.out.emptyD.bel
        clear hK K hHeld
        try simp only [List.setIfInBounds_toArray, List.set_cons_zero]
        rw [← hG]
        exact st01111 _ g14 g18 X _ HOI.out.emptyD
    have st00110 : ∀ (g14 : Nat) (g18 : Nat) wx, OI w2 wx nilV 0 [] (.slice (some ⟨g14, 0, none⟩) 0 0) 0 [] (.slice (some ⟨g18, 0, none⟩) 0 0) 0 [] none → G 7 #[false, true, true, false, true, true, true, true, true, true, true, false, true, true, true, false, false, false, false] ⟨#[rpV ag n cg ad nd cd ld ep ay ny cy ac nc cc, .pointer (some ⟨w.heap.size, 0, none⟩), .pointer (some ⟨w.heap.size + 1, 0, none⟩), undef, undef, undef, undef, .pointer (some ⟨w.heap.size, 1, none⟩), .slice ad nd cd, undef, .pointer (some ⟨w.heap.size, 2, none⟩), .int .i64 ld, .pointer (some ⟨w.heap.size, 3, none⟩), .int .i64 ep, .slice (some ⟨g14, 0, none⟩) 0 0, .pointer (some ⟨w.heap.size, 4, none⟩), .slice ay ny cy, undef, .slice (some ⟨g18, 0, none⟩) 0 0, .pointer (some ⟨w.heap.size, 5, none⟩), .slice ac nc cc, undef, undef, undef, undef, undef, undef, undef, undef, undef, undef, undef, undef, undef, undef, undef, undef, undef, undef, undef], []⟩ wx := by
      intro g14 g18 wx hOI
      have HOI := hide hOI
      have hSx := KEEP.out wx hOI.bel
      clear hOI
      rw [hG]
      refine wpAnyH_ready (rs := [0, 17]) (by kernel_rfl) (by simp) ?_
      refine AllReadyH.cons rfl (fun K hK => ?_) (AllReadyH.cons rfl (fun K hK => ?_) (AllReadyH.nil))
      · skip
        simp only [List.getElem_toArray, List.getElem_cons_zero]
        go_simp
        refine hK.out _ _ ?_ (fun hHeld => ?_)
        · exact KEEP.out _ HOI.out.emptyD.bel
        clear hK K hHeld
        try simp only [List.setIfInBounds_toArray, List.set_cons_zero]
        rw [← hG]
        exact st01110 _ g14 g18 _ HOI.out.emptyD
      · skip
        simp only [List.getElem_toArray, List.getElem_cons_succ, List.getElem_cons_zero]
        go_simp
        refine hK.out _ _ ?_ (fun hHeld => ?_)
        · exact KEEP.out _ HOI.out.box.bel
        clear hK K hHeld
        try simp only [List.setIfInBounds_toArray, List.set_cons_zero, List.set_cons_succ]
        rw [← hG]
        exact st00111 g14 g18 _ _ HOI.out.box
    have st00101 : ∀ (g14 : Nat) (X : Nat) wx, OI w2 wx nilV 0 [] (.slice (some ⟨g14, 0, none⟩) 0 0) 0 [] nilV 0 [] (some X) → G 7 #[false, true, true, false, true, true, true, true, true, true, true, false, false, true, true, false, false, true, false] ⟨#[rpV ag n cg ad nd cd ld ep ay ny cy ac nc cc, .pointer (some ⟨w.heap.size, 0, none⟩), .pointer (some ⟨w.heap.size + 1, 0, none⟩), .pointer (some ⟨X, 0, none⟩), undef, undef, undef, .pointer (some ⟨w.heap.size, 1, none⟩), .slice ad nd cd, undef, .pointer (some ⟨w.heap.size, 2, none⟩), .int .i64 ld, .pointer (some ⟨w.heap.size, 3, none⟩), .int .i64 ep, .slice (some ⟨g14, 0, none⟩) 0 0, .pointer (some ⟨w.heap.size, 4, none⟩), .slice ay ny cy, undef, undef, .pointer (some ⟨w.heap.size, 5, none⟩), .slice ac nc cc, undef, undef, undef, undef, undef, undef, undef, undef, undef, undef, undef, undef, undef, undef, undef, undef, undef, undef, undef], []⟩ wx := by
      intro g14 X wx hOI
      have HOI := hide hOI
      have hSx := KEEP.out wx hOI.bel
      clear hOI
      rw [hG]
      refine wpAnyH_ready (rs := [0, 12]) (by kernel_rfl) (by simp) ?_
      refine AllReadyH.cons rfl (fun K hK => ?_) (AllReadyH.cons rfl (fun K hK => ?_) (AllReadyH.nil))
      · skip
        simp only [List.getElem_toArray, List.getElem_cons_zero]
        go_simp
        refine hK.out _ _ ?_ (fun hHeld => ?_)
        · exact KEEP.out _ HOI.out.emptyD.bel
        clear hK K hHeld
        try simp only [List.setIfInBounds_toArray, List.set_cons_zero]
        rw [← hG]
        exact st01101 _ g14 X _ HOI.out.emptyD
      · skip
        simp only [List.getElem_toArray, List.getElem_cons_succ, List.getElem_cons_zero]
        go_simp
        refine hK.out _ _ ?_ (fun hHeld => ?_)
        · exact KEEP.out _ HOI.out.emptyC.bel
        clear hK K hHeld
        try simp only [List.setIfInBounds_toArray, List.set_cons_zero, List.set_cons_succ]
        rw [← hG]
        exact st00111 g14 _ X _ HOI.out.emptyC
    have st00100 : ∀ (g14 : Nat) wx, OI w2 wx nilV 0 [] (.slice (some ⟨g14, 0, none⟩) 0 0) 0 [] nilV 0 [] none → G 8 #[false, true, true, false, true, true, true, true, true, true, true, false, false, true, true, false, false, false, false] ⟨#[rpV ag n cg ad nd cd ld ep ay ny cy ac nc cc, .pointer (some ⟨w.heap.size, 0, none⟩), .pointer (some ⟨w.heap.size + 1, 0, none⟩), undef, undef, undef, undef, .pointer (some ⟨w.heap.size, 1, none⟩), .slice ad nd cd, undef, .pointer (some ⟨w.heap.size, 2, none⟩), .int .i64 ld, .pointer (some ⟨w.heap.size, 3, none⟩), .int .i64 ep, .slice (some ⟨g14, 0, none⟩) 0 0, .pointer (some ⟨w.heap.size, 4, none⟩), .slice ay ny cy, undef, undef, .pointer (some ⟨w.heap.size, 5, none⟩), .slice ac nc cc, undef, undef, undef, undef, undef, undef, undef, undef, undef, undef, undef, undef, undef, undef, undef, undef, undef, undef, undef], []⟩ wx := by
      intro g14 wx hOI
      have HOI := hide hOI
      have hSx := KEEP.out wx hOI.bel
      clear hOI
      rw [hG]
      refine wpAnyH_ready (rs := [0, 12, 17]) (by kernel_rfl) (by simp) ?_
      refine AllReadyH.cons rfl (fun K hK => ?_) (AllReadyH.cons rfl (fun K hK => ?_) (AllReadyH.cons rfl (fun K hK => ?_) (AllReadyH.nil)))
      · skip
        simp only [List.getElem_toArray, List.getElem_cons_zero]
        go_simp
        refine hK.out _ _ ?_ (fun hHeld => ?_)
        · exact KEEP.out _ HOI.out.emptyD.bel
        clear hK K hHeld
        try simp only [List.setIfInBounds_toArray, List.set_cons_zero]
        rw [← hG]
        exact st01100 _ g14 _ HOI.out.emptyD
      · skip
        simp only [List.getElem_toArray, List.getElem_cons_succ, List.getElem_cons_zero]
        go_simp
        refine hK.out _ _ ?_ (fun hHeld => ?_)
        · exact KEEP.out _ HOI.out.emptyC.bel
        clear hK K hHeld
        try simp only [List.setIfInBounds_toArray, List.set_cons_zero, List.set_cons_succ]
        rw [← hG]
        exact st00110 g14 _ _ HOI.out.emptyC
      · skip
        simp only [List.getElem_toArray, List.getElem_cons_succ, List.getElem_cons_zero]
        go_simp
        refine hK.out _ _ ?_ (fun hHeld => ?_)
        · exact KEEP.out _ HOI.out.box.bel
        clear hK K hHeld
        try simp only [List.setIfInBounds_toArray, List.set_cons_zero, List.set_cons_succ]
        rw [← hG]
        exact st00101 g14 _ _ HOI.out.box
    have st00011 : ∀ (g18 : Nat) (X : Nat) wx, OI w2 wx nilV 0 [] nilV 0 [] (.slice (some ⟨g18, 0, none⟩) 0 0) 0 [] (some X) → G 7 #[false, true, true, false, true, true, true, true, false, true, true, false, true, true, true, false, false, true, false] ⟨#[rpV ag n cg ad nd cd ld ep ay ny cy ac nc cc, .pointer (some ⟨w.heap.size, 0, none⟩), .pointer (some ⟨w.heap.size + 1, 0, none⟩), .pointer (some ⟨X, 0, none⟩), undef, undef, undef, .pointer (some ⟨w.heap.size, 1, none⟩), .slice ad nd cd, undef, .pointer (some ⟨w.heap.size, 2, none⟩), .int .i64 ld, .pointer (some ⟨w.heap.size, 3, none⟩), .int .i64 ep, undef, .pointer (some ⟨w.heap.size, 4, none⟩), .slice ay ny cy, undef, .slice (some ⟨g18, 0, none⟩) 0 0, .pointer (some ⟨w.heap.size, 5, none⟩), .slice ac nc cc, undef, undef, undef, undef, undef, undef, undef, undef, undef, undef, undef, undef, undef, undef, undef, undef, undef, undef, undef], []⟩ wx := by
      intro g18 X wx hOI
      have HOI := hide hOI
      have hSx := KEEP.out wx hOI.bel
      clear hOI
      rw [hG]
      refine wpAnyH_ready (rs := [0, 8]) (by kernel_rfl) (by simp) ?_
      refine AllReadyH.cons rfl (fun K hK => ?_) (AllReadyH.cons rfl (fun K hK => ?_) (AllReadyH.nil))
      · skip
        simp only [List.getElem_toArray, List.getElem_cons_zero]
        go_simp
        refine hK.out _ _ ?_ (fun hHeld => ?_)
        · exact KEEP.out _ HOI.out.emptyD.bel
        clear hK K hHeld
        try simp only [List.setIfInBounds_toArray, List.set_cons_zero]
        rw [← hG]
        exact st01011 _ g18 X _ HOI.out.emptyD
      · skip
        simp only [List.getElem_toArray, List.getElem_cons_succ, List.getElem_cons_zero]
        go_simp
        refine hK.out _ _ ?_ (fun hHeld => ?_)
        · exact KEEP.out _ HOI.out.emptyY.bel
        clear hK K hHeld
        try simp only [List.setIfInBounds_toArray, List.set_cons_zero, List.set_cons_succ]
        rw [← hG]
        exact st00111 _ g18 X _ HOI.out.emptyY
    have st00010 : ∀ (g18 : Nat) wx, OI w2 wx nilV 0 [] nilV 0 [] (.slice (some ⟨g18, 0, none⟩) 0 0) 0 [] none → G 8 #[false, true, true, false, true, true, true, true, false, true, true, false, true, true, true, false, false, false, false] ⟨#[rpV ag n cg ad nd cd ld ep ay ny cy ac nc cc, .pointer (some ⟨w.heap.size, 0, none⟩), .pointer (some ⟨w.heap.size + 1, 0, none⟩), undef, undef, undef, undef, .pointer (some ⟨w.heap.size, 1, none⟩), .slice ad nd cd, undef, .pointer (some ⟨w.heap.size, 2, none⟩), .int .i64 ld, .pointer (some ⟨w.heap.size, 3, none⟩), .int .i64 ep, undef, .pointer (some ⟨w.heap.size, 4, none⟩), .slice ay ny cy, undef, .slice (some ⟨g18, 0, none⟩) 0 0, .pointer (some ⟨w.heap.size, 5, none⟩), .slice ac nc cc, undef, undef, undef, undef, undef, undef, undef, undef, undef, undef, undef, undef, undef, undef, undef, undef, undef, undef, undef], []⟩ wx := by
      intro g18 wx hOI
      have HOI := hide hOI
      have hSx := KEEP.out wx hOI.bel
      clear hOI
      rw [hG]
      refine wpAnyH_ready (rs := [0, 8, 17]) (by kernel_rfl) (by simp) ?_
      refine AllReadyH.cons rfl (fun K hK => ?_) (AllReadyH.cons rfl (fun K hK => ?_) (AllReadyH.cons rfl (fun K hK => ?_) (AllReadyH.nil)))
      · skip
        simp only [List.getElem_toArray, List.getElem_cons_zero]
        go_simp
        refine hK.out _ _ ?_ (fun hHeld => ?_)
        · exact KEEP.out _ HOI.out.emptyD.bel
        clear hK K hHeld
        try simp only [List.setIfInBounds_toArray, List.set_cons_zero]
        rw [← hG]
        exact st01010 _ g18 _ HOI.out.emptyD
      · skip
        simp only [List.getElem_toArray, List.getElem_cons_succ, List.getElem_cons_zero]
        go_simp
        refine hK.out _ _ ?_ (fun hHeld => ?_)
        · exact KEEP.out _ HOI.out.emptyY.bel
        clear hK K hHeld
        try simp only [List.setIfInBounds_toArray, List.set_cons_zero, List.set_cons_succ]
        rw [← hG]
        exact st00110 _ g18 _ HOI.out.emptyY
      · skip
        simp only [List.getElem_toArray, List.getElem_cons_succ, List.getElem_cons_zero]
        go_simp
        refine hK.out _ _ ?_ (fun hHeld => ?_)
        · exact KEEP.out _ HOI.out.box.bel
        clear hK K hHeld
        try simp only [List.setIfInBounds_toArray, List.set_cons_zero, List.set_cons_succ]
        rw [← hG]
        exact st00011 g18 _ _ HOI.out.box
    have st00001 : ∀ (X : Nat) wx, OI w2 wx nilV 0 [] nilV 0 [] nilV 0 [] (some X) → G 8 #[false, true, true, false, true, true, true, true, false, true, true, false, false, true, true, false, false, true, false] ⟨#[rpV ag n cg ad nd cd ld ep ay ny cy ac nc cc, .pointer (some ⟨w.heap.size, 0, none⟩), .pointer (some ⟨w.heap.size + 1, 0, none⟩), .pointer (some ⟨X, 0, none⟩), undef, undef, undef, .pointer (some ⟨w.heap.size, 1, none⟩), .slice ad nd cd, undef, .pointer (some ⟨w.heap.size, 2, none⟩), .int .i64 ld, .pointer (some ⟨w.heap.size, 3, none⟩), .int .i64 ep, undef, .pointer (some ⟨w.heap.size, 4, none⟩), .slice ay ny cy, undef, undef, .pointer (some ⟨w.heap.size, 5, none⟩), .slice ac nc cc, undef, undef, undef, undef, undef, undef, undef, undef, undef, undef, undef, undef, undef, undef, undef, undef, undef, undef, undef], []⟩ wx := by
      intro X wx hOI
      have HOI := hide hOI
      have hSx := KEEP.out wx hOI.bel
      clear hOI
      rw [hG]
      refine wpAnyH_ready (rs := [0, 8, 12]) (by kernel_rfl) (by simp) ?_
      refine AllReadyH.cons rfl (fun K hK => ?_) (AllReadyH.cons rfl (fun K hK => ?_) (AllReadyH.cons rfl (fun K hK => ?_) (AllReadyH.nil)))
      · skip
        simp only [List.getElem_toArray, List.getElem_cons_zero]
        go_simp
        refine hK.out _ _ ?_ (fun hHeld => ?_)
        · exact KEEP.out _ HOI.out.emptyD.bel
        clear hK K hHeld
        try simp only [List.setIfInBounds_toArray, List.set_cons_zero]
        rw [← hG]
        exact st01001 _ X _ HOI.out.emptyD
      · skip
        simp only [List.getElem_toArray, List.getElem_cons_succ, List.getElem_cons_zero]
        go_simp
        refine hK.out _ _ ?_ (fun hHeld => ?_)
        · exact KEEP.out _ HOI.out.emptyY.bel
        clear hK K hHeld
        try simp only [List.setIfInBounds_toArray, List.set_cons_zero, List.set_cons_succ]
        rw [← hG]
        exact st00101 _ X _ HOI.out.emptyY
      · skip
        simp only [List.getElem_toArray, List.getElem_cons_succ, List.getElem_cons_zero]
        go_simp
        refine hK.out _ _ ?_ (fun hHeld => ?_)
        · exact KEEP.out _ HOI.out.emptyC.bel
        clear hK K hHeld
        try simp only [List.setIfInBounds_toArray, List.set_cons_zero, List.set_cons_succ]
        rw [← hG]
        exact st00011 _ X _ HOI.out.emptyC
    have st00000 : ∀ wx, OI w2 wx nilV 0 [] nilV 0 [] nilV 0 [] none → G 9 #[false, true, true, false, true, true, true, true, false, true, true, false, false, true, true, false, false, false, false] ⟨#[rpV ag n cg ad nd cd ld ep ay ny cy ac nc cc, .pointer (some ⟨w.heap.size, 0, none⟩), .pointer (some ⟨w.heap.size + 1, 0, none⟩), undef, undef, undef, undef, .pointer (some ⟨w.heap.size, 1, none⟩), .slice ad nd cd, undef, .pointer (some ⟨w.heap.size, 2, none⟩), .int .i64 ld, .pointer (some ⟨w.heap.size, 3, none⟩), .int .i64 ep, undef, .pointer (some ⟨w.heap.size, 4, none⟩), .slice ay ny cy, undef, undef, .pointer (some ⟨w.heap.size, 5, none⟩), .slice ac nc cc, undef, undef, undef, undef, undef, undef, undef, undef, undef, undef, undef, undef, undef, undef, undef, undef, undef, undef, undef], []⟩ wx := by
      intro  wx hOI
      have HOI := hide hOI
      have hSx := KEEP.out wx hOI.bel
      clear hOI
      rw [hG]
      refine wpAnyH_ready (rs := [0, 8, 12, 17]) (by kernel_rfl) (by simp) ?_
      refine AllReadyH.cons rfl (fun K hK => ?_) (AllReadyH.cons rfl (fun K hK => ?_) (AllReadyH.cons rfl (fun K hK => ?_) (AllReadyH.cons rfl (fun K hK => ?_) (AllReadyH.nil))))
      · skip
        simp only [List.getElem_toArray, List.getElem_cons_zero]
        go_simp
        refine hK.out _ _ ?_ (fun hHeld => ?_)
        · exact KEEP.out _ HOI.out.emptyD.bel
        clear hK K hHeld
        try simp only [List.setIfInBounds_toArray, List.set_cons_zero]
        rw [← hG]
        exact st01000 _ _ HOI.out.emptyD
      · skip
        simp only [List.getElem_toArray, List.getElem_cons_succ, List.getElem_cons_zero]
        go_simp
        refine hK.out _ _ ?_ (fun hHeld => ?_)
        · exact KEEP.out _ HOI.out.emptyY.bel
        clear hK K hHeld
        try simp only [List.setIfInBounds_toArray, List.set_cons_zero, List.set_cons_succ]
        rw [← hG]
        exact st00100 _ _ HOI.out.emptyY
      · skip
        simp only [List.getElem_toArray, List.getElem_cons_succ, List.getElem_cons_zero]
        go_simp
        refine hK.out _ _ ?_ (fun hHeld => ?_)
        · exact KEEP.out _ HOI.out.emptyC.bel
        clear hK K hHeld
        try simp only [List.setIfInBounds_toArray, List.set_cons_zero, List.set_cons_succ]
        rw [← hG]
        exact st00010 _ _ HOI.out.emptyC
      · skip
        simp only [List.getElem_toArray, List.getElem_cons_succ, List.getElem_cons_zero]
        go_simp
        refine hK.out _ _ ?_ (fun hHeld => ?_)
        · exact KEEP.out _ HOI.out.box.bel
        clear hK K hHeld
        try simp only [List.setIfInBounds_toArray, List.set_cons_zero, List.set_cons_succ]
        rw [← hG]
        exact st00001 _ _ HOI.out.box
    exact st00000 _ ⟨World.ownsRow_nil _ _ _ _, World.ownsRow_nil _ _ _ _, World.ownsRow_nil _ _ _ _, fun X e => (by cases e), (Below.refl _ _).drew⟩
  case rest =>
    obtain ⟨X, a9, c9, a17, c17, a21, c21, rfl, wy, hOI, rfl⟩ := hcut
    obtain ⟨w3, hw3⟩ : ∃ w3, w3 = (((((wy.setCell ⟨X, 0, none⟩ nilV).setCell ⟨X, 1, none⟩ (.slice a9 nd c9)).setCell ⟨X, 2, none⟩ (.int .i64 ld)).setCell ⟨X, 3, none⟩ (.int .i64 ep)).setCell ⟨X, 4, none⟩ (.slice a17 ny c17)).setCell ⟨X, 5, none⟩ (.slice a21 nc c21) := ⟨_, rfl⟩
    have hOL := ol_start (ld := ld) (ep := ep) hOI
    rw [← hw3] at hOL ⊢
    have HOL := hide (hOL r.G)
    clear hw3 hOI hOL
    obtain ⟨iG, hG1, hG2, hG3, hG4⟩ := info_parts info_row
    go_upto_region 2 with fail
    have c0' := (HOL.out.bel.cell (blk_lt9 c0)).trans c0
    go_wp2
    go_loopw [26] (fun i wr => ∃ (k : Nat) (V : List Value) (la : Option Addr) (lc : Nat), k ≤ n ∧ i = .int .i64 (k : Int) ∧ Hid (OL w2 wr X V (.slice la k lc) k (.slice a9 nd c9) nd XD (.slice a17 ny c17) ny XY (.slice a21 nc c21) nc XC ld ep r.G)) (fun i _ => n - (intOf i).toNat)
    case atStart => exact ⟨0, [], none, 0, Nat.zero_le _, rfl, HOL⟩
    case round =>
      clear HOL c0'
      obtain ⟨k, V, la, lc, hk, rfl, HOL⟩ := hrel
      by_cases hlt : k < n
      · have hltI : (k : Int) < (n : Int) := by omega
        have hk0 : (0 : Int) ≤ (k : Int) := by omega
        obtain ⟨lb, lo, ea, aK, cK, hcK, hsK⟩ := HRG.out k (by rw [← HN.out]; exact hlt)
        subst ea
        have hBW := HBX.out.trans (HOL.out.bel.mono HBX.out.size)
        have qK := (hBW.cell (p := ⟨lb, lo + k, none⟩) (blk_lt9 hcK)).trans hcK
        have HSK := hide (hsK.below hBW)
        obtain ⟨GK, hGK⟩ : ∃ GK, GK = r.G.getD k [] := ⟨_, rfl⟩
        have HGK := hide hGK
        obtain ⟨mK, hmK⟩ : ∃ mK, mK = GK.length := ⟨_, rfl⟩
        have HMK := hide hmK
        rw [← hGK, ← hmK] at qK
        rw [← hGK] at HSK
        have hm40 : mK ≤ 1048576 := by rw [hmK, hGK]; exact HLS.out k (by omega)
        have LK : Hid ((flatE GK).length = mK * 2) := by show (flatE GK).length = mK * 2; rw [flatE_len, hmK]
        have ONE := hide (flatE_one GK)
        have SRC : Hid (∀ wx, Below wr.heap.size wr wx → mK = 0 ∨ ∃ ad', aK = some ad' ∧ ∀ j u, (flatE GK)[j]? = some u → wx.cell? (ad'.add j) = some u) := hide (fun wx hb => by rw [hmK]; exact slE_src (HSK.out.below hb))
        obtain ⟨x0, x1, x2, x3, x4, x5⟩ := blk6 HOL.out.box
        have xf : ∀ c, wr.frozen? ⟨X, c, none⟩ = false := fun c => frz HOL.out.box c
        have OWN := hide HOL.out.g
        have xA : ∀ ob, (wr.alloc ob).cell? ⟨X, 0, none⟩ = some (.slice la k lc) := fun ob => Go.Lib.cell?_alloc_some ob x0
        have hz2 := HOL.out.bel.size
        clear hcK hsK hBW hGK hmK
        go_upto_region 5 with fail
        refine wp_region_held_drew (S := fun _ => True) (by kernel_rfl) trivial (fun hHeld => ?_)
        refine wpAnyH_take (i := 0) (v := ?v13) rfl (by kernel_rfl) (by kernel_rfl) (by kernel_rfl) (fun _ _ _ h => h) (Or.inl ⟨by rfl, ?y13⟩) (by assumption) ?r13
        case y13 => (intro w hSw; (try dsimp only at hSw); go_simp; try (with_reducible rfl))
        simp only [List.getElem_toArray, List.getElem_cons_zero, Act.put, List.setIfInBounds_toArray, List.set_cons_zero, List.set_cons_succ]
        refine wpAnyH_take (i := 3) (v := ?v14) rfl (by kernel_rfl) (by kernel_rfl) (by kernel_rfl) (fun _ _ _ h => h) (Or.inl ⟨by rfl, ?y14⟩) (by assumption) ?r14
        case y14 => (intro w hSw; (try dsimp only at hSw); go_simp; try (with_reducible rfl))
        simp only [List.getElem_toArray, List.getElem_cons_succ, List.getElem_cons_zero, Act.put, List.setIfInBounds_toArray, List.set_cons_zero, List.set_cons_succ]
        refine wpAnyH_ready (rs := [1, 2]) (by kernel_rfl) (by simp) ?_
        refine AllReadyH.cons rfl (fun K hK => ?_) (AllReadyH.cons rfl (fun K hK => ?_) AllReadyH.nil)
        · skip
          simp only [List.getElem_toArray, List.getElem_cons_succ, List.getElem_cons_zero]
          go_simp
          refine hK.out _ _ ?_ (fun hHeld => ?_)
          · trivial
          clear hK K
          try simp only [Act.put, List.setIfInBounds_toArray, List.set_cons_zero, List.set_cons_succ]
          refine wpAnyH_ready (rs := [2]) (by kernel_rfl) (by simp) ?_
          refine AllReadyH.cons rfl (fun K hK => ?_) AllReadyH.nil
          simp only [List.getElem_toArray, List.getElem_cons_succ, List.getElem_cons_zero]
          go_simp
          refine hK.out _ _ ?_ (fun hHeld => ?_)
          · trivial
          clear hK K
          try simp only [List.setIfInBounds_toArray, List.set_cons_zero, List.set_cons_succ]
          refine wpAnyH_ready (rs := [4]) (by kernel_rfl) (by simp) ?_
          refine AllReadyH.cons rfl (fun K hK => ?_) AllReadyH.nil
          simp only [List.getElem_toArray, List.getElem_cons_succ, List.getElem_cons_zero]
          rw [if_pos (by rfl)]
          refine wp_copy (.tmp 32) (.tmp 33) 30 rfl wr.heap.size 93 iIE (.agg #[.int .i64 0, .string ByteArray.empty]) 2 24 Try.underlying30 hIE1 hIE2 hIE3 hIE4 rfl (by decide) (by decide) wr.heap.size rfl (own_emptyG wr.drew _ 2 _ (Nat.le_refl _)) aK mK cK (flatE GK) rfl LK.out (SRC.out _ ((Below.refl _ _).drew.alloc (Nat.le_refl _) _)) ONE.out hm40 (by show wr.heap.size ≤ (wr.drew.alloc _).heap.size; simp) ?_
          intro al cl w4 ho4 hg4
          have hb4 : Below wr.heap.size wr w4 := ((Below.refl wr.heap.size wr).drew.alloc (Nat.le_refl _) _).grown hg4 (by show wr.heap.size ≤ (wr.drew.alloc _).heap.size; simp) (fun g hg => by cases hg; exact Nat.le_refl _)
          have y0 := (hb4.cell (blk_lt9 x0)).trans x0
          have yA : ∀ ob, (w4.alloc ob).cell? ⟨X, 0, none⟩ = some (.slice la k lc) := fun ob => Go.Lib.cell?_alloc_some ob y0
          refine hK.out _ _ ?_ (fun hHeld => ?_)
          · trivial
          clear hK K
          try simp only [Act.put, List.setIfInBounds_toArray, List.set_cons_zero, List.set_cons_succ]
          refine wpAnyH_ready (rs := [5]) (by kernel_rfl) (by simp) ?_
          refine AllReadyH.cons rfl (fun K hK => ?_) AllReadyH.nil
          simp only [List.getElem_toArray, List.getElem_cons_succ, List.getElem_cons_zero]
          go_simp
          refine hK.out _ _ ?_ (fun hHeld => ?_)
          · trivial
          clear hK K
          try simp only [List.setIfInBounds_toArray, List.set_cons_zero, List.set_cons_succ]
          refine wpAnyH_ready (rs := [6]) (by kernel_rfl) (by simp) ?_
          refine AllReadyH.cons rfl (fun K hK => ?_) AllReadyH.nil
          simp only [List.getElem_toArray, List.getElem_cons_succ, List.getElem_cons_zero]
          rw [if_pos (by rfl)]
          refine wp_append_lies _ (.tmp 31) (.tmp 35) 28 rfl w2.heap.size 30 iG (.slice none 0 0) 1 24 Try.underlying28 hG1 hG2 hG3 hG4 rfl (by decide) (.slice la k lc) k V rfl (own_at OWN.out fun q e => (hb4.alloc (by have := hb4.size; omega) _).block q (own_lt9 OWN.out q e)) ⟨w4.heap.size, 0, none⟩ 1 1 [.slice al mK cl] rfl rfl (cell_one_new9 _ _ _) (by intro u hu; simp at hu; subst hu; rfl) (by decide) (by unfold maxLen; omega) (by omega) (by have := hb4.size; simp; omega) _ rfl ?_
          intro g6' c6' w6 ho6 hg6 _ _
          have hstp := HOL.out.step (hb4.alloc (by have := hb4.size; omega) (.cells #[.slice al mK cl] 30)) (v := .slice al mK cl) (by rw [← HGK.out, ← HMK.out]; exact own_at ho4 fun q e => ((Below.refl w4.heap.size w4).alloc (Nat.le_refl _) _).block q (own_lt9 ho4 q e)) ho6 hg6
          have HSTP := hide hstp
          have hX6 : w6.heap[X]? = _ := (hg6.block X (by have := (Array.getElem?_eq_some_iff.1 HOL.out.box).1; have := hb4.size; simp; omega) (fun e => row_notBoxR OWN.out HOL.out.box t_rg e.symm)).trans ((((hb4.alloc (by have := hb4.size; omega) (.cells #[.slice al mK cl] 30)).block X (Array.getElem?_eq_some_iff.1 HOL.out.box).1)).trans HOL.out.box)
          obtain ⟨u0, _, _, _, _, _⟩ := blk6 hX6
          have uf : ∀ c, w6.frozen? ⟨X, c, none⟩ = false := fun c => frz hX6 c
          refine hK.out _ _ ?_ (fun hHeld => ?_)
          · trivial
          clear hK K hstp ho6 hg6 hX6
          try simp only [Act.put, List.setIfInBounds_toArray, List.set_cons_zero, List.set_cons_succ]
          refine wpAnyH_take (i := 7) (v := ?v15) rfl (by kernel_rfl) (by kernel_rfl) (by kernel_rfl) (fun _ _ _ h => h) (Or.inl ⟨by rfl, ?y15⟩) (by assumption) ?r15
          case y15 => (intro w hSw; (try dsimp only at hSw); go_simp; try (with_reducible rfl))
          simp only [List.getElem_toArray, List.getElem_cons_succ, List.getElem_cons_zero, Act.put, List.setIfInBounds_toArray, List.set_cons_zero, List.set_cons_succ]
          refine wpAnyH_ready (rs := [8]) (by kernel_rfl) (by simp) ?_
          refine AllReadyH.cons rfl (fun K hK => ?_) AllReadyH.nil
          simp only [List.getElem_toArray, List.getElem_cons_succ, List.getElem_cons_zero]
          go_simp
          refine hK.out _ _ ?_ (fun hHeld => ?_)
          · trivial
          clear hK K
          try simp only [List.setIfInBounds_toArray, List.set_cons_zero, List.set_cons_succ]
          refine wpAnyH_done (by kernel_rfl) ?_ _
          clear hHeld u0 uf x0 x1 x2 x3 x4 x5 xf y0 yA xA hb4 ho4 hg4 SRC ONE LK OWN HSK
          go_wp2
          go_roundw
          case rel => exact ⟨k + 1, V ++ [.slice al mK cl], some ⟨g6', 0, none⟩, c6', by omega, by go_num, HSTP⟩
          case measure => simp [intOf]; omega
        · skip
          simp only [List.getElem_toArray, List.getElem_cons_succ, List.getElem_cons_zero]
          go_simp
          refine hK.out _ _ ?_ (fun hHeld => ?_)
          · trivial
          clear hK K
          try simp only [List.setIfInBounds_toArray, List.set_cons_zero, List.set_cons_succ]
          refine wpAnyH_ready (rs := [1, 4]) (by kernel_rfl) (by simp) ?_
          refine AllReadyH.cons rfl (fun K hK => ?_) (AllReadyH.cons rfl (fun K hK => ?_) AllReadyH.nil)
          · skip
            simp only [List.getElem_toArray, List.getElem_cons_succ, List.getElem_cons_zero]
            go_simp
            refine hK.out _ _ ?_ (fun hHeld => ?_)
            · trivial
            clear hK K
            try simp only [Act.put, List.setIfInBounds_toArray, List.set_cons_zero, List.set_cons_succ]
            refine wpAnyH_ready (rs := [4]) (by kernel_rfl) (by simp) ?_
            refine AllReadyH.cons rfl (fun K hK => ?_) AllReadyH.nil
            simp only [List.getElem_toArray, List.getElem_cons_succ, List.getElem_cons_zero]
            rw [if_pos (by rfl)]
            refine wp_copy (.tmp 32) (.tmp 33) 30 rfl wr.heap.size 93 iIE (.agg #[.int .i64 0, .string ByteArray.empty]) 2 24 Try.underlying30 hIE1 hIE2 hIE3 hIE4 rfl (by decide) (by decide) wr.heap.size rfl (own_emptyG wr.drew _ 2 _ (Nat.le_refl _)) aK mK cK (flatE GK) rfl LK.out (SRC.out _ ((Below.refl _ _).drew.alloc (Nat.le_refl _) _)) ONE.out hm40 (by show wr.heap.size ≤ (wr.drew.alloc _).heap.size; simp) ?_
            intro al cl w4 ho4 hg4
            have hb4 : Below wr.heap.size wr w4 := ((Below.refl wr.heap.size wr).drew.alloc (Nat.le_refl _) _).grown hg4 (by show wr.heap.size ≤ (wr.drew.alloc _).heap.size; simp) (fun g hg => by cases hg; exact Nat.le_refl _)
            have y0 := (hb4.cell (blk_lt9 x0)).trans x0
            have yA : ∀ ob, (w4.alloc ob).cell? ⟨X, 0, none⟩ = some (.slice la k lc) := fun ob => Go.Lib.cell?_alloc_some ob y0
            refine hK.out _ _ ?_ (fun hHeld => ?_)
            · trivial
            clear hK K
            try simp only [Act.put, List.setIfInBounds_toArray, List.set_cons_zero, List.set_cons_succ]
            refine wpAnyH_ready (rs := [5]) (by kernel_rfl) (by simp) ?_
            refine AllReadyH.cons rfl (fun K hK => ?_) AllReadyH.nil
            simp only [List.getElem_toArray, List.getElem_cons_succ, List.getElem_cons_zero]
            go_simp
            refine hK.out _ _ ?_ (fun hHeld => ?_)
            · trivial
            clear hK K
            try simp only [List.setIfInBounds_toArray, List.set_cons_zero, List.set_cons_succ]
            refine wpAnyH_ready (rs := [6]) (by kernel_rfl) (by simp) ?_
            refine AllReadyH.cons rfl (fun K hK => ?_) AllReadyH.nil
            simp only [List.getElem_toArray, List.getElem_cons_succ, List.getElem_cons_zero]
            rw [if_pos (by rfl)]
            refine wp_append_lies _ (.tmp 31) (.tmp 35) 28 rfl w2.heap.size 30 iG (.slice none 0 0) 1 24 Try.underlying28 hG1 hG2 hG3 hG4 rfl (by decide) (.slice la k lc) k V rfl (own_at OWN.out fun q e => (hb4.alloc (by have := hb4.size; omega) _).block q (own_lt9 OWN.out q e)) ⟨w4.heap.size, 0, none⟩ 1 1 [.slice al mK cl] rfl rfl (cell_one_new9 _ _ _) (by intro u hu; simp at hu; subst hu; rfl) (by decide) (by unfold maxLen; omega) (by omega) (by have := hb4.size; simp; omega) _ rfl ?_
            intro g6' c6' w6 ho6 hg6 _ _
            have hstp := HOL.out.step (hb4.alloc (by have := hb4.size; omega) (.cells #[.slice al mK cl] 30)) (v := .slice al mK cl) (by rw [← HGK.out, ← HMK.out]; exact own_at ho4 fun q e => ((Below.refl w4.heap.size w4).alloc (Nat.le_refl _) _).block q (own_lt9 ho4 q e)) ho6 hg6
            have HSTP := hide hstp
            have hX6 : w6.heap[X]? = _ := (hg6.block X (by have := (Array.getElem?_eq_some_iff.1 HOL.out.box).1; have := hb4.size; simp; omega) (fun e => row_notBoxR OWN.out HOL.out.box t_rg e.symm)).trans ((((hb4.alloc (by have := hb4.size; omega) (.cells #[.slice al mK cl] 30)).block X (Array.getElem?_eq_some_iff.1 HOL.out.box).1)).trans HOL.out.box)
            obtain ⟨u0, _, _, _, _, _⟩ := blk6 hX6
            have uf : ∀ c, w6.frozen? ⟨X, c, none⟩ = false := fun c => frz hX6 c
            refine hK.out _ _ ?_ (fun hHeld => ?_)
            · trivial
            clear hK K hstp ho6 hg6 hX6
            try simp only [Act.put, List.setIfInBounds_toArray, List.set_cons_zero, List.set_cons_succ]
            refine wpAnyH_take (i := 7) (v := ?v16) rfl (by kernel_rfl) (by kernel_rfl) (by kernel_rfl) (fun _ _ _ h => h) (Or.inl ⟨by rfl, ?y16⟩) (by assumption) ?r16
            case y16 => (intro w hSw; (try dsimp only at hSw); go_simp; try (with_reducible rfl))
            simp only [List.getElem_toArray, List.getElem_cons_succ, List.getElem_cons_zero, Act.put, List.setIfInBounds_toArray, List.set_cons_zero, List.set_cons_succ]
            refine wpAnyH_ready (rs := [8]) (by kernel_rfl) (by simp) ?_
            refine AllReadyH.cons rfl (fun K hK => ?_) AllReadyH.nil
            simp only [List.getElem_toArray, List.getElem_cons_succ, List.getElem_cons_zero]
            go_simp
            refine hK.out _ _ ?_ (fun hHeld => ?_)
            · trivial
            clear hK K
            try simp only [List.setIfInBounds_toArray, List.set_cons_zero, List.set_cons_succ]
            refine wpAnyH_done (by kernel_rfl) ?_ _
            clear hHeld u0 uf x0 x1 x2 x3 x4 x5 xf y0 yA xA hb4 ho4 hg4 SRC ONE LK OWN HSK
            go_wp2
            go_roundw
            case rel => exact ⟨k + 1, V ++ [.slice al mK cl], some ⟨g6', 0, none⟩, c6', by omega, by go_num, HSTP⟩
            case measure => simp [intOf]; omega
          · skip
            simp only [List.getElem_toArray, List.getElem_cons_succ, List.getElem_cons_zero]
            rw [if_pos (by rfl)]
            refine wp_copy (.tmp 32) (.tmp 33) 30 rfl wr.heap.size 93 iIE (.agg #[.int .i64 0, .string ByteArray.empty]) 2 24 Try.underlying30 hIE1 hIE2 hIE3 hIE4 rfl (by decide) (by decide) wr.heap.size rfl (own_emptyG wr.drew _ 2 _ (Nat.le_refl _)) aK mK cK (flatE GK) rfl LK.out (SRC.out _ ((Below.refl _ _).drew.alloc (Nat.le_refl _) _)) ONE.out hm40 (by show wr.heap.size ≤ (wr.drew.alloc _).heap.size; simp) ?_
            intro al cl w4 ho4 hg4
            have hb4 : Below wr.heap.size wr w4 := ((Below.refl wr.heap.size wr).drew.alloc (Nat.le_refl _) _).grown hg4 (by show wr.heap.size ≤ (wr.drew.alloc _).heap.size; simp) (fun g hg => by cases hg; exact Nat.le_refl _)
            have y0 := (hb4.cell (blk_lt9 x0)).trans x0
            have yA : ∀ ob, (w4.alloc ob).cell? ⟨X, 0, none⟩ = some (.slice la k lc) := fun ob => Go.Lib.cell?_alloc_some ob y0
            refine hK.out _ _ ?_ (fun hHeld => ?_)
            · trivial
            clear hK K
            try simp only [Act.put, List.setIfInBounds_toArray, List.set_cons_zero, List.set_cons_succ]
            refine wpAnyH_ready (rs := [1, 5]) (by kernel_rfl) (by simp) ?_
            refine AllReadyH.cons rfl (fun K hK => ?_) (AllReadyH.cons rfl (fun K hK => ?_) AllReadyH.nil)
            · skip
              simp only [List.getElem_toArray, List.getElem_cons_succ, List.getElem_cons_zero]
              go_simp
              refine hK.out _ _ ?_ (fun hHeld => ?_)
              · trivial
              clear hK K
              try simp only [Act.put, List.setIfInBounds_toArray, List.set_cons_zero, List.set_cons_succ]
              refine wpAnyH_ready (rs := [5]) (by kernel_rfl) (by simp) ?_
              refine AllReadyH.cons rfl (fun K hK => ?_) AllReadyH.nil
              simp only [List.getElem_toArray, List.getElem_cons_succ, List.getElem_cons_zero]
              go_simp
              refine hK.out _ _ ?_ (fun hHeld => ?_)
              · trivial
              clear hK K
              try simp only [List.setIfInBounds_toArray, List.set_cons_zero, List.set_cons_succ]
              refine wpAnyH_ready (rs := [6]) (by kernel_rfl) (by simp) ?_
              refine AllReadyH.cons rfl (fun K hK => ?_) AllReadyH.nil
              simp only [List.getElem_toArray, List.getElem_cons_succ, List.getElem_cons_zero]
              rw [if_pos (by rfl)]
              refine wp_append_lies _ (.tmp 31) (.tmp 35) 28 rfl w2.heap.size 30 iG (.slice none 0 0) 1 24 Try.underlying28 hG1 hG2 hG3 hG4 rfl (by decide) (.slice la k lc) k V rfl (own_at OWN.out fun q e => (hb4.alloc (by have := hb4.size; omega) _).block q (own_lt9 OWN.out q e)) ⟨w4.heap.size, 0, none⟩ 1 1 [.slice al mK cl] rfl rfl (cell_one_new9 _ _ _) (by intro u hu; simp at hu; subst hu; rfl) (by decide) (by unfold maxLen; omega) (by omega) (by have := hb4.size; simp; omega) _ rfl ?_
              intro g6' c6' w6 ho6 hg6 _ _
              have hstp := HOL.out.step (hb4.alloc (by have := hb4.size; omega) (.cells #[.slice al mK cl] 30)) (v := .slice al mK cl) (by rw [← HGK.out, ← HMK.out]; exact own_at ho4 fun q e => ((Below.refl w4.heap.size w4).alloc (Nat.le_refl _) _).block q (own_lt9 ho4 q e)) ho6 hg6
              have HSTP := hide hstp
              have hX6 : w6.heap[X]? = _ := (hg6.block X (by have := (Array.getElem?_eq_some_iff.1 HOL.out.box).1; have := hb4.size; simp; omega) (fun e => row_notBoxR OWN.out HOL.out.box t_rg e.symm)).trans ((((hb4.alloc (by have := hb4.size; omega) (.cells #[.slice al mK cl] 30)).block X (Array.getElem?_eq_some_iff.1 HOL.out.box).1)).trans HOL.out.box)
              obtain ⟨u0, _, _, _, _, _⟩ := blk6 hX6
              have uf : ∀ c, w6.frozen? ⟨X, c, none⟩ = false := fun c => frz hX6 c
              refine hK.out _ _ ?_ (fun hHeld => ?_)
              · trivial
              clear hK K hstp ho6 hg6 hX6
              try simp only [Act.put, List.setIfInBounds_toArray, List.set_cons_zero, List.set_cons_succ]
              refine wpAnyH_take (i := 7) (v := ?v17) rfl (by kernel_rfl) (by kernel_rfl) (by kernel_rfl) (fun _ _ _ h => h) (Or.inl ⟨by rfl, ?y17⟩) (by assumption) ?r17
              case y17 => (intro w hSw; (try dsimp only at hSw); go_simp; try (with_reducible rfl))
              simp only [List.getElem_toArray, List.getElem_cons_succ, List.getElem_cons_zero, Act.put, List.setIfInBounds_toArray, List.set_cons_zero, List.set_cons_succ]
              refine wpAnyH_ready (rs := [8]) (by kernel_rfl) (by simp) ?_
              refine AllReadyH.cons rfl (fun K hK => ?_) AllReadyH.nil
              simp only [List.getElem_toArray, List.getElem_cons_succ, List.getElem_cons_zero]
              go_simp
              refine hK.out _ _ ?_ (fun hHeld => ?_)
              · trivial
              clear hK K
              try simp only [List.setIfInBounds_toArray, List.set_cons_zero, List.set_cons_succ]
              refine wpAnyH_done (by kernel_rfl) ?_ _
              clear hHeld u0 uf x0 x1 x2 x3 x4 x5 xf y0 yA xA hb4 ho4 hg4 SRC ONE LK OWN HSK
              go_wp2
              go_roundw
              case rel => exact ⟨k + 1, V ++ [.slice al mK cl], some ⟨g6', 0, none⟩, c6', by omega, by go_num, HSTP⟩
              case measure => simp [intOf]; omega
            · skip
              simp only [List.getElem_toArray, List.getElem_cons_succ, List.getElem_cons_zero]
              go_simp
              refine hK.out _ _ ?_ (fun hHeld => ?_)
              · trivial
              clear hK K
              try simp only [List.setIfInBounds_toArray, List.set_cons_zero, List.set_cons_succ]
              refine wpAnyH_ready (rs := [1]) (by kernel_rfl) (by simp) ?_
              refine AllReadyH.cons rfl (fun K hK => ?_) AllReadyH.nil
              simp only [List.getElem_toArray, List.getElem_cons_succ, List.getElem_cons_zero]
              go_simp
              refine hK.out _ _ ?_ (fun hHeld => ?_)
              · trivial
              clear hK K
              try simp only [Act.put, List.setIfInBounds_toArray, List.set_cons_zero, List.set_cons_succ]
              refine wpAnyH_ready (rs := [6]) (by kernel_rfl) (by simp) ?_
              refine AllReadyH.cons rfl (fun K hK => ?_) AllReadyH.nil
              simp only [List.getElem_toArray, List.getElem_cons_succ, List.getElem_cons_zero]
              rw [if_pos (by rfl)]
              refine wp_append_lies _ (.tmp 31) (.tmp 35) 28 rfl w2.heap.size 30 iG (.slice none 0 0) 1 24 Try.underlying28 hG1 hG2 hG3 hG4 rfl (by decide) (.slice la k lc) k V rfl (own_at OWN.out fun q e => (hb4.alloc (by have := hb4.size; omega) _).block q (own_lt9 OWN.out q e)) ⟨w4.heap.size, 0, none⟩ 1 1 [.slice al mK cl] rfl rfl (cell_one_new9 _ _ _) (by intro u hu; simp at hu; subst hu; rfl) (by decide) (by unfold maxLen; omega) (by omega) (by have := hb4.size; simp; omega) _ rfl ?_
              intro g6' c6' w6 ho6 hg6 _ _
              have hstp := HOL.out.step (hb4.alloc (by have := hb4.size; omega) (.cells #[.slice al mK cl] 30)) (v := .slice al mK cl) (by rw [← HGK.out, ← HMK.out]; exact own_at ho4 fun q e => ((Below.refl w4.heap.size w4).alloc (Nat.le_refl _) _).block q (own_lt9 ho4 q e)) ho6 hg6
              have HSTP := hide hstp
              have hX6 : w6.heap[X]? = _ := (hg6.block X (by have := (Array.getElem?_eq_some_iff.1 HOL.out.box).1; have := hb4.size; simp; omega) (fun e => row_notBoxR OWN.out HOL.out.box t_rg e.symm)).trans ((((hb4.alloc (by have := hb4.size; omega) (.cells #[.slice al mK cl] 30)).block X (Array.getElem?_eq_some_iff.1 HOL.out.box).1)).trans HOL.out.box)
              obtain ⟨u0, _, _, _, _, _⟩ := blk6 hX6
              have uf : ∀ c, w6.frozen? ⟨X, c, none⟩ = false := fun c => frz hX6 c
              refine hK.out _ _ ?_ (fun hHeld => ?_)
              · trivial
              clear hK K hstp ho6 hg6 hX6
              try simp only [Act.put, List.setIfInBounds_toArray, List.set_cons_zero, List.set_cons_succ]
              refine wpAnyH_take (i := 7) (v := ?v18) rfl (by kernel_rfl) (by kernel_rfl) (by kernel_rfl) (fun _ _ _ h => h) (Or.inl ⟨by rfl, ?y18⟩) (by assumption) ?r18
              case y18 => (intro w hSw; (try dsimp only at hSw); go_simp; try (with_reducible rfl))
              simp only [List.getElem_toArray, List.getElem_cons_succ, List.getElem_cons_zero, Act.put, List.setIfInBounds_toArray, List.set_cons_zero, List.set_cons_succ]
              refine wpAnyH_ready (rs := [8]) (by kernel_rfl) (by simp) ?_
              refine AllReadyH.cons rfl (fun K hK => ?_) AllReadyH.nil
              simp only [List.getElem_toArray, List.getElem_cons_succ, List.getElem_cons_zero]
              go_simp
              refine hK.out _ _ ?_ (fun hHeld => ?_)
              · trivial
              clear hK K
              try simp only [List.setIfInBounds_toArray, List.set_cons_zero, List.set_cons_succ]
              refine wpAnyH_done (by kernel_rfl) ?_ _
              clear hHeld u0 uf x0 x1 x2 x3 x4 x5 xf y0 yA xA hb4 ho4 hg4 SRC ONE LK OWN HSK
              go_wp2
              go_roundw
              case rel => exact ⟨k + 1, V ++ [.slice al mK cl], some ⟨g6', 0, none⟩, c6', by omega, by go_num, HSTP⟩
              case measure => simp [intOf]; omega
      · skip
        obtain rfl : k = n := by omega
        have hltI : ¬ (k : Int) < (k : Int) := by omega
        obtain ⟨x0, x1, x2, x3, x4, x5⟩ := blk6 HOL.out.box
        have hzl : w.heap.size + 1 < w2.heap.size := by rw [HS2.out]; omega
        have zr := (HOL.out.bel.block _ hzl).trans HX1.out
        obtain ⟨z0, z1, z2, z3, z4, z5⟩ := blk6 zr
        have zf : ∀ c, wr.frozen? ⟨w.heap.size + 1, c, none⟩ = false := fun c => frz zr c
        have FN : Hid (∀ v0 v1 v2 v3 v4 v5, _) := hide (fun v0 v1 v2 v3 v4 v5 => ol_out (z := w.heap.size + 1) (by
          have h9 := HOL.out
          rw [HXD.out, HXY.out, HXC.out, HND.out, HNY.out, HNC.out, HN.out] at h9
          exact h9) HBX.out ⟨by omega, hzl⟩ v0 v1 v2 v3 v4 v5)
        clear zr
        go_wp2
        refine bodyPost_ret (v := rpV la k lc a9 nd c9 ld ep a17 ny c17 a21 nc c21) (by simp [results, Try.f65, go_sem, z0, z1, z2, z3, z4, z5]) rfl ?_
        refine ⟨V, la, lc, a9, c9, a17, c17, a21, c21, rfl, ?_⟩
        have := FN.out
        rw [← HND.out, ← HNY.out, ← HNC.out, ← HN.out] at this
        exact this _ _ _ _ _ _
end Go.Proofs.Ythmekhhfihjclbd.L9

namespace Go.Proofs.Ythmekhhfihjclbd.L9
open Go.RowKit L1 L7
set_option linter.unusedVariables false

def SDo (S : Nat → Prop) (w : World) (R : Rm) (ok : Bool) (e : Ending) (w' : World) : Prop :=
  ∃ V ag cg ad cd ay cy ac cc, e = .returned (.tuple #[rpV ag R.G.length cg ad R.dn.length cd R.ld R.ep ay R.sy.length cy ac R.ce.length cc, .bool ok]) ∧ RW w' (Grow S w w') V (.slice ag R.G.length cg) (.slice ad R.dn.length cd) (.slice ay R.sy.length cy) (.slice ac R.ce.length cc) R ∧ Kept S w w' ∧ (ok = false → Below w.heap.size w w')
theorem six_blkS {w : World} {z q : Nat} (v0 v1 v2 v3 v4 v5 : Value) (h : q ≠ z) : ((((((w.setCell ⟨z, 0, none⟩ v0).setCell ⟨z, 1, none⟩ v1).setCell ⟨z, 2, none⟩ v2).setCell ⟨z, 3, none⟩ v3).setCell ⟨z, 4, none⟩ v4).setCell ⟨z, 5, none⟩ v5).heap[q]? = w.heap[q]? := by
  rw [Below.heap_setCell _ _ _ _ h, Below.heap_setCell _ _ _ _ h, Below.heap_setCell _ _ _ _ h, Below.heap_setCell _ _ _ _ h, Below.heap_setCell _ _ _ _ h, Below.heap_setCell _ _ _ _ h]
theorem six_kept {S : Nat → Prop} {w w' : World} {z : Nat} (v0 v1 v2 v3 v4 v5 : Value) (h : Kept S w w') (hz : w.heap.size ≤ z) : Kept S w ((((((w'.setCell ⟨z, 0, none⟩ v0).setCell ⟨z, 1, none⟩ v1).setCell ⟨z, 2, none⟩ v2).setCell ⟨z, 3, none⟩ v3).setCell ⟨z, 4, none⟩ v4).setCell ⟨z, 5, none⟩ v5) :=
  (((((h.set ⟨z, 0, none⟩ _ (.inr hz)).set ⟨z, 1, none⟩ _ (.inr hz)).set ⟨z, 2, none⟩ _ (.inr hz)).set ⟨z, 3, none⟩ _ (.inr hz)).set ⟨z, 4, none⟩ _ (.inr hz)).set ⟨z, 5, none⟩ _ (.inr hz)
theorem six_belS {N : Nat} {w w' : World} {z : Nat} (v0 v1 v2 v3 v4 v5 : Value) (h : Below N w w') (hz : N ≤ z) : Below N w ((((((w'.setCell ⟨z, 0, none⟩ v0).setCell ⟨z, 1, none⟩ v1).setCell ⟨z, 2, none⟩ v2).setCell ⟨z, 3, none⟩ v3).setCell ⟨z, 4, none⟩ v4).setCell ⟨z, 5, none⟩ v5) :=
  (((((h.setCell (p := ⟨z, 0, none⟩) hz _).setCell (p := ⟨z, 1, none⟩) hz _).setCell (p := ⟨z, 2, none⟩) hz _).setCell (p := ⟨z, 3, none⟩) hz _).setCell (p := ⟨z, 4, none⟩) hz _).setCell (p := ⟨z, 5, none⟩) hz _
/-- The struct lies in the box p, the answer is written into the box z. -/
theorem sdo_out {S : Nat → Prop} {w w3 w5 : World} {p z : Nat} {R : Rm} (hS : ∀ q, S q → q < w.heap.size) (h3 : Below w.heap.size w w3) (hp : w.heap.size ≤ p ∧ p < w3.heap.size) (hz : w.heap.size ≤ z ∧ p ≠ z) (hzr : w3.heap[z]? = some zR) (hD : Done (fun q => S q ∨ q = p) w3 p R w5) (hI : Inv R) :
    ∃ gb cg db cd ay cy ac cc, w5.heap[p]? = some (rbO (.slice (some ⟨gb, 0, none⟩) R.G.length cg) (.slice (some ⟨db, 0, none⟩) R.dn.length cd) R.ld R.ep (.slice ay R.sy.length cy) (.slice ac R.ce.length cc)) ∧ w5.heap[z]? = some zR ∧
      ∀ v0 v1 v2 v3 v4 v5, SDo S w R true (.returned (.tuple #[rpV (some ⟨gb, 0, none⟩) R.G.length cg (some ⟨db, 0, none⟩) R.dn.length cd R.ld R.ep ay R.sy.length cy ac R.ce.length cc, .bool true])) ((((((w5.setCell ⟨z, 0, none⟩ v0).setCell ⟨z, 1, none⟩ v1).setCell ⟨z, 2, none⟩ v2).setCell ⟨z, 3, none⟩ v3).setCell ⟨z, 4, none⟩ v4).setCell ⟨z, 5, none⟩ v5) := by
  obtain ⟨V, gb, cg, db, cd, ay, cy, ac, cc, hb, hW, _⟩ := hD.1.open hI
  have hzl := (Array.getElem?_eq_some_iff.1 hzr).1
  have hs3 := h3.size
  have hs5 := hD.2.size
  have nz : ¬ (S z ∨ z = p) := fun h => by
    rcases h with h | h
    · have := hS z h; omega
    · exact hz.2 h.symm
  refine ⟨gb, cg, db, cd, ay, cy, ac, cc, hb, (hD.2.block z hzl nz).trans hzr, fun v0 v1 v2 v3 v4 v5 => ⟨V, _, cg, _, cd, ay, cy, ac, cc, rfl, ?_, ?_, fun h => by cases h⟩⟩
  · have h1 := hW.at (w' := (((((w5.setCell ⟨z, 0, none⟩ v0).setCell ⟨z, 1, none⟩ v1).setCell ⟨z, 2, none⟩ v2).setCell ⟨z, 3, none⟩ v3).setCell ⟨z, 4, none⟩ v4).setCell ⟨z, 5, none⟩ v5) (fun q hq _ => six_blkS _ _ _ _ _ _ (fun e => by
      subst e
      rcases hq with hq | hq
      · exact nz hq
      · omega))
    refine h1.mono (fun q hq => ?_)
    have e6 : ((((((w5.setCell ⟨z, 0, none⟩ v0).setCell ⟨z, 1, none⟩ v1).setCell ⟨z, 2, none⟩ v2).setCell ⟨z, 3, none⟩ v3).setCell ⟨z, 4, none⟩ v4).setCell ⟨z, 5, none⟩ v5).heap.size = w5.heap.size := by simp
    rcases hq with (hq | hq) | hq
    · exact .inl hq
    · exact .inr ⟨by omega, by rw [e6]; omega⟩
    · exact .inr ⟨by omega, by rw [e6]; exact hq.2⟩
  · refine six_kept _ _ _ _ _ _ ((kept_below (S := S) h3).trans hD.2 (fun q hq hg => ?_)) hz.1
    rcases hg with hg | hg
    · exact hg
    · omega
theorem sdo_same {S : Nat → Prop} {w w5 : World} {z : Nat} {V : List Value} {ag ad ay ac : Option Addr} {cg cd cy cc : Nat} {r : Rm} (hW : RW w S V (.slice ag r.G.length cg) (.slice ad r.dn.length cd) (.slice ay r.sy.length cy) (.slice ac r.ce.length cc) r) (hS : ∀ q, S q → q < w.heap.size) (h5 : Below w.heap.size w w5) (hz : w.heap.size ≤ z) (ok : Bool) (v0 v1 v2 v3 v4 v5 : Value) :
    SDo S w r ok (.returned (.tuple #[rpV ag r.G.length cg ad r.dn.length cd r.ld r.ep ay r.sy.length cy ac r.ce.length cc, .bool ok])) ((((((w5.setCell ⟨z, 0, none⟩ v0).setCell ⟨z, 1, none⟩ v1).setCell ⟨z, 2, none⟩ v2).setCell ⟨z, 3, none⟩ v3).setCell ⟨z, 4, none⟩ v4).setCell ⟨z, 5, none⟩ v5) :=
  ⟨V, ag, cg, ad, cd, ay, cy, ac, cc, rfl, ((hW.below h5).at fun q hq _ => six_blkS _ _ _ _ _ _ (fun e => by have := hS q hq; omega)).mono (fun q hq => .inl hq), six_kept _ _ _ _ _ _ (kept_below h5) hz, fun _ => six_belS _ _ _ _ _ _ h5 hz⟩
theorem alloc3 (w : World) (A B C : Obj) : (((w.alloc A).alloc B).alloc C).heap.size = w.heap.size + 3 ∧ (((w.alloc A).alloc B).alloc C).heap[w.heap.size]? = some A ∧ (((w.alloc A).alloc B).alloc C).heap[w.heap.size + 1]? = some B ∧ (((w.alloc A).alloc B).alloc C).heap[w.heap.size + 2]? = some C ∧ Below w.heap.size w (((w.alloc A).alloc B).alloc C) := by
  have e1 : (w.alloc A).heap.size = w.heap.size + 1 := by simp
  have e2 : ((w.alloc A).alloc B).heap.size = w.heap.size + 2 := by simp
  have e3 : (((w.alloc A).alloc B).alloc C).heap.size = w.heap.size + 3 := by simp
  have a1 := (Below.refl (w.alloc A).heap.size (w.alloc A)).alloc (Nat.le_refl _) B
  have a2 := (Below.refl ((w.alloc A).alloc B).heap.size ((w.alloc A).alloc B)).alloc (Nat.le_refl _) C
  refine ⟨e3, (a2.block _ (by omega)).trans ((a1.block _ (by omega)).trans (blk_new9 w A)), (a2.block _ (by omega)).trans ?_, ?_, (((Below.refl w.heap.size w).alloc (Nat.le_refl _) A).alloc (by omega) B).alloc (by omega) C⟩
  · rw [← e1]; exact blk_new9 (w.alloc A) B
  · rw [← e2]; exact blk_new9 ((w.alloc A).alloc B) C
theorem rn_small {r : Rm} (h : Inv r) : r.sy.length ≤ 5 := by
  have hr := rn_rise h.good.rise
  have h5 := h.good.logs.1
  have : ∀ j, j < r.sy.length → (j : Int) ≤ r.sy.getD j 0 := fun j => by
    induction j with
    | zero => intro hj; exact (h.good.rise 0 hj).1.1
    | succ k ih =>
      intro hj
      have := ih (by omega)
      have := L4.rise_get hr (show k < k + 1 by omega) hj
      omega
  by_cases h0 : r.sy.length = 0
  · omega
  · have h3 := this (r.sy.length - 1) (by omega)
    have h4 := (h.good.rise (r.sy.length - 1) (by omega)).1.2
    omega
theorem Inv.doStep {r x : Rm} {kd nd : Int} {t : ByteArray} (h : Inv r) (hx : doM r kd nd t = some x) : Inv x := h.step hx
end Go.Proofs.Ythmekhhfihjclbd.L9

namespace Go.Proofs.Ythmekhhfihjclbd.L7
open Go.RowKit L1
set_option linter.unusedVariables false

set_option maxRecDepth 100000 in
set_option maxHeartbeats 2000000 in
theorem l7Last_any (a : Option Addr) (l : List En) (n cap : Nat) (w : World) (hn : l.length = n) (hs : SlE w a l) (hn2 : n ≤ 1048576) (x : Int) (hx : lastE l = x) :
    Calls Try.prog 92 #[.slice a n cap] w fun e w' => e = .returned (.int .i64 x) ∧ w = w' := by
  cases n with
  | zero =>
    have e : x = 0 := by rw [← hx]; unfold lastE; rw [if_pos hn]
    subst e
    clear hx hs hn
    go_enter Try.func92, Try.ntmps92
    go_wp2
    go_ret
    exact ⟨rfl, rfl⟩
  | succ j =>
    obtain ⟨b, off, rfl, hc, _⟩ := hs j (by omega)
    have e : x = (l.getD j eE).1 := by rw [← hx]; unfold lastE; rw [if_neg (by omega), hn, Nat.add_sub_cancel]
    rw [← e] at hc
    have hjI : (j : Int) < (j : Int) + 1 := by omega
    have hj0 : (0 : Int) ≤ (j : Int) := by omega
    have hwj : IntKind.i64.wrap (j : Int) = (j : Int) := by
      simp only [IntKind.wrap, IntKind.bits, IntKind.signed]
      simp
      omega
    have hjn : ((j : Int) + 1 == 0) = false := by simp; omega
    clear hx hs hn e
    go_enter Try.func92, Try.ntmps92
    go_wp2
    go_ret
    exact ⟨rfl, rfl⟩
end Go.Proofs.Ythmekhhfihjclbd.L7

namespace Go.Proofs.Ythmekhhfihjclbd.L9
open Go.RowKit L1 L7
set_option linter.unusedVariables false

set_option maxRecDepth 100000 in
set_option maxHeartbeats 2000000 in
theorem sdo_1 (S : Nat → Prop) (V : List Value) (gb cg db cd : Nat) (ay : Option Addr) (cy : Nat) (ac : Option Addr) (cc : Nat) (r : Rm) (w : World) (hI : Inv r) (hW : RW w S V (.slice (some ⟨gb, 0, none⟩) r.G.length cg) (.slice (some ⟨db, 0, none⟩) r.dn.length cd) (.slice ay r.sy.length cy) (.slice ac r.ce.length cc) r) (hS : ∀ q, S q → q < w.heap.size) (nd : Int) (t : ByteArray) (ht : t.size ≤ 9223372036854775807) (o : Option Rm) (ho : o = if nd = 0 ∧ t.size ≤ 20 ∧ r.down r.ld = false ∧ r.lead.length ≠ 40 ∧ lastE r.lead ≤ r.ep then some { r with G := r.G.set r.ld.toNat (r.lead ++ [(r.ep, t)]) } else none) :
    Calls Try.prog 80 #[rpV (some ⟨gb, 0, none⟩) r.G.length cg (some ⟨db, 0, none⟩) r.dn.length cd r.ld r.ep ay r.sy.length cy ac r.ce.length cc, .agg #[.int .i64 1, .int .i64 nd, .string t]] w fun e w' => SDo S w (o.getD r) o.isSome e w' := by
  have hnode := hI.node
  have hdn := hI.good.down
  have hn1 := hI.good.logs.1
  have hzz := rpz_of hI
  obtain ⟨j, hj⟩ : ∃ j : Nat, r.ld = (j : Int) := ⟨r.ld.toNat, by omega⟩
  obtain ⟨n, hn⟩ : ∃ n, n = r.G.length := ⟨_, rfl⟩
  obtain ⟨ny, hny⟩ : ∃ ny, ny = r.sy.length := ⟨_, rfl⟩
  obtain ⟨nc, hnc⟩ : ∃ nc, nc = r.ce.length := ⟨_, rfl⟩
  obtain ⟨E, hE⟩ : ∃ E, E = r.ep := ⟨_, rfl⟩
  have hjn : j < n := by omega
  obtain ⟨hsz3, X0, X1, X2, BX0⟩ := alloc3 w (Obj.cells #[.slice (some ⟨gb, 0, none⟩) n cg, .slice (some ⟨db, 0, none⟩) n cd, .int .i64 (j : Int), .int .i64 E, .slice ay ny cy, .slice ac nc cc] 32) (Obj.cells #[.int .i64 1, .int .i64 nd, .string t] 50) zR
  obtain ⟨w3, hw3⟩ : ∃ w3, w3 = ((w.alloc (Obj.cells #[.slice (some ⟨gb, 0, none⟩) n cg, .slice (some ⟨db, 0, none⟩) n cd, .int .i64 (j : Int), .int .i64 E, .slice ay ny cy, .slice ac nc cc] 32)).alloc (Obj.cells #[.int .i64 1, .int .i64 nd, .string t] 50)).alloc zR := ⟨_, rfl⟩
  rw [← hw3] at hsz3 X0 X1 X2 BX0
  have HW3 := hide hw3
  clear hw3
  have s0 : w3.cell? ⟨w.heap.size + 1, 0, none⟩ = some (.int .i64 1) := by simp [World.cell?, X1]
  have s1 : w3.cell? ⟨w.heap.size + 1, 1, none⟩ = some (.int .i64 nd) := by simp [World.cell?, X1]
  have s2 : w3.cell? ⟨w.heap.size + 1, 2, none⟩ = some (.string t) := by simp [World.cell?, X1]
  obtain ⟨g0, g1, g2, g3, g4, g5⟩ := blk6 X0
  have hWx := hW.below BX0
  have hRB : RB w3 (fun q => S q ∨ q = w.heap.size) w.heap.size r := ⟨V, _, _, _, _, by rw [X0, hdn, ← hn, ← hny, ← hnc, ← hE, hj], hWx.mono (fun q hq => .inl hq), .inr rfl⟩
  have HWX := hide (hWx.mono (S' := fun q => S q ∨ q = w.heap.size) (fun q hq => .inl hq))
  have HBX : Hid (w3.heap[w.heap.size]? = some (rbO (.slice (some ⟨gb, 0, none⟩) r.G.length cg) (.slice (some ⟨db, 0, none⟩) r.dn.length cd) r.ld r.ep (.slice ay r.sy.length cy) (.slice ac r.ce.length cc))) := hide (by rw [X0, hdn, ← hn, ← hny, ← hnc, ← hE, hj])
  have hS3 : ∀ q, (S q ∨ q = w.heap.size) → q < w3.heap.size := fun q hq => by
    rcases hq with hq | hq
    · have := hS q hq; omega
    · omega
  have OUT := hide (fun R w5 (hD : Done (fun q => S q ∨ q = w.heap.size) w3 w.heap.size R w5) (hIR : Inv R) => sdo_out hS BX0 ⟨Nat.le_refl _, by omega⟩ ⟨by omega, by omega⟩ X2 hD hIR)
  have cj := hWx.downAt j (by omega)
  obtain ⟨y, hy⟩ : ∃ y, y = r.dn.getD j false := ⟨_, rfl⟩
  have HY : Hid (r.down r.ld = y) := hide (by rw [hj]; exact hy.symm)
  rw [← hy] at cj
  have HLD := hide hj
  have HEP := hide hE
  have HI := hide hI
  have HRB := hide hRB
  have HO := hide ho
  have he0 : 1 ≤ E := by rw [hE]; exact hI.good.e0
  have he1 : E ≤ 1000 := by rw [hE]; exact hI.good.e1
  have hy6 := hzz.y2
  rw [← hny] at hy6
  have fz : ∀ c, w3.frozen? ⟨w.heap.size, c, none⟩ = false := fun c => frz X0 c
  have fd : ∀ c, w3.frozen? ⟨db, c, none⟩ = false := fun c => own_frz hWx.d c
  have fg : ∀ c, w3.frozen? ⟨gb, c, none⟩ = false := fun c => own_frz hWx.g c
  obtain ⟨z0, z1, z2, z3, z4, z5⟩ := blk6 X2
  have zf : ∀ c, w3.frozen? ⟨w.heap.size + 2, c, none⟩ = false := fun c => frz X2 c
  have hjI : (j : Int) < (n : Int) := by omega
  have hj0 : (0 : Int) ≤ (j : Int) := by omega
  have HB0 := hide BX0
  have hgb : gb < w3.heap.size := by obtain ⟨_, _, _, hc, _⟩ := hWx.logAt j (by omega); exact blk_lt9 hc
  have hp0 : w.heap.size < w3.heap.size := by omega
  have hp2 : w.heap.size + 2 < w3.heap.size := by omega
  rw [hdn, ← hn, ← hny, ← hnc, ← hE, hj]
  have SAME := hide (fun w5 (h5 : Below w.heap.size w w5) v0 v1 v2 v3 v4 v5 => sdo_same (z := w.heap.size + 2) hW hS h5 (by omega) false v0 v1 v2 v3 v4 v5)
  simp only [hdn, ← hn, ← hny, ← hnc, ← hE, hj] at SAME

  obtain ⟨aJ, kJ, eJ, lJ, sJ⟩ := hWx.logAt j (by omega)
  have gJ := (hI.good.logs.2 j (by omega)).1
  have oJ := hWx.l j (by omega)
  rw [eJ] at oJ
  obtain ⟨q, hq⟩ : ∃ q, q = (r.G.getD j []).length := ⟨_, rfl⟩
  rw [← hq] at lJ gJ
  obtain ⟨L, hL⟩ : ∃ L, lastE (r.G.getD j []) = L := ⟨_, rfl⟩
  have CP := hide (fun wx (hb : Below w3.heap.size w3 wx) => l7Last_any aJ (r.G.getD j []) q kJ wx hq.symm (sJ.below hb) (by omega) L hL)
  have HLL := hide hL
  have HQ := hide hq
  have HOJ := hide oJ
  have HEJ := hide eJ
  have HN := hide hn
  have HX0 := hide X0
  have hbg : w.heap.size ≠ gb := fun e => by
    have := hWx.g
    rw [← e] at this
    exact box_ne X0 this
  have hsg : w.heap.size + 1 ≠ gb := fun e => by
    obtain ⟨cu, hc⟩ := row_blk (e ▸ hWx.g)
    rw [X1] at hc
    cases hc
  obtain ⟨i0, hi, hz0, hz1, hz2⟩ := info_parts info_ent
  clear hsz3 hy hj hE hny hnc hn ho hI hW hWx hRB hzz hdn hn1 hnode X0 X1 X2 hy6 BX0 eJ sJ oJ hq hL
  go_enter Try.func80, Try.ntmps80
  go_upto_region 1 with fail
  rw [← HW3.out]
  go_upto_region 3 with fail
  by_cases hn0 : nd = 0
  · have hn1 : (nd != 0) = false := by simp [hn0]
    have HN0 := hide hn0
    clear hn0
    cases y with
    | true =>
      have hoo := HO.out
      rw [if_neg (fun h => by have h2 := h.2.2.1; rw [HY.out] at h2; cases h2)] at hoo
      subst hoo
      go_quiet ((go_at_call 92; exact Calls.quiet_of_same ((CP.out _ (below_drewN (Below.refl _ _) _)).mono fun _ _ h => ⟨h.1, h.2.symm⟩)))
      go_wp2
      refine bodyPost_ret (v := .tuple #[rpV (some ⟨gb, 0, none⟩) n cg (some ⟨db, 0, none⟩) n cd (j : Int) E ay ny cy ac nc cc, .bool false]) (by simp [results, Try.f80, go_sem, z0, z1, z2, z3, z4, z5]) rfl ?_
      exact SAME.out _ (below_drewN HB0.out _) _ _ _ _ _ _

    | false =>
      by_cases ht2 : t.size ≤ 20
      · have ht3 : decide (20 < (t.size : Int)) = false := by simp; omega
        have ht3' : ¬ 20 < (t.size : Int) := by omega
        by_cases hq40 : q = 40
        · have hq41 : ((q : Int) == 40) = true := by simp; omega
          have HNEG : Hid (¬ (nd = 0 ∧ t.size ≤ 20 ∧ r.down r.ld = false ∧ r.lead.length ≠ 40 ∧ lastE r.lead ≤ r.ep)) := hide (fun h => h.2.2.2.1 (by show (r.G.getD r.ld.toNat []).length = 40; rw [HLD.out, Int.toNat_natCast, ← HQ.out]; exact hq40))
          clear hq40
          have hoo := HO.out
          rw [if_neg (HNEG.out)] at hoo
          subst hoo
          go_quiet ((go_at_call 92; exact Calls.quiet_of_same ((CP.out _ (below_drewN (Below.refl _ _) _)).mono fun _ _ h => ⟨h.1, h.2.symm⟩)))
          go_wp2
          refine bodyPost_ret (v := .tuple #[rpV (some ⟨gb, 0, none⟩) n cg (some ⟨db, 0, none⟩) n cd (j : Int) E ay ny cy ac nc cc, .bool false]) (by simp [results, Try.f80, go_sem, z0, z1, z2, z3, z4, z5]) rfl ?_
          exact SAME.out _ (below_drewN HB0.out _) _ _ _ _ _ _

        · have hq41 : ((q : Int) == 40) = false := by simp; omega
          by_cases hLE : E < L
          · have hLE2 : decide (E < L) = true := by simp [hLE]
            have HNEG : Hid (¬ (nd = 0 ∧ t.size ≤ 20 ∧ r.down r.ld = false ∧ r.lead.length ≠ 40 ∧ lastE r.lead ≤ r.ep)) := hide (fun h => by
              have h2 : lastE (r.G.getD r.ld.toNat []) ≤ r.ep := h.2.2.2.2
              rw [HLD.out, Int.toNat_natCast, HLL.out, ← HEP.out] at h2
              omega)
            have hoo := HO.out
            rw [if_neg (HNEG.out)] at hoo
            subst hoo
            go_quiet ((go_at_call 92; exact Calls.quiet_of_same ((CP.out _ (below_drewN (Below.refl _ _) _)).mono fun _ _ h => ⟨h.1, h.2.symm⟩)))
            go_wp2
            refine bodyPost_ret (v := .tuple #[rpV (some ⟨gb, 0, none⟩) n cg (some ⟨db, 0, none⟩) n cd (j : Int) E ay ny cy ac nc cc, .bool false]) (by simp [results, Try.f80, go_sem, z0, z1, z2, z3, z4, z5]) rfl ?_
            exact SAME.out _ (below_drewN HB0.out _) _ _ _ _ _ _

          · have hLE2 : decide (E < L) = false := by simp [hLE]
            have hpos : nd = 0 ∧ t.size ≤ 20 ∧ r.down r.ld = false ∧ r.lead.length ≠ 40 ∧ lastE r.lead ≤ r.ep := ⟨HN0.out, ht2, HY.out, by show (r.G.getD r.ld.toNat []).length ≠ 40; rw [HLD.out, Int.toNat_natCast, ← HQ.out]; exact hq40, by show lastE (r.G.getD r.ld.toNat []) ≤ r.ep; rw [HLD.out, Int.toNat_natCast, HLL.out, ← HEP.out]; omega⟩
            have hoo := HO.out
            rw [if_pos (hpos)] at hoo
            obtain ⟨R, hR⟩ : ∃ R, R = { r with G := r.G.set r.ld.toNat (r.lead ++ [(r.ep, t)]) } := ⟨_, rfl⟩
            have hIR : Inv R := by rw [hR]; exact HI.out.write t hpos.2.2.2.1 hpos.2.1 hpos.2.2.2.2
            have HOX : Hid (∀ m, ((w3.drewN m).alloc (.cells #[.int .i64 E, .string t] 93)).ownsRow 0 93 2 (.slice aJ q kJ) q (flatE (r.G.getD j []))) := hide (fun m => by
              have h1 := HOJ.out
              rw [← HQ.out] at h1
              exact own_at h1 fun z hz => ((Below.refl _ (w3.drewN m)).alloc (Nat.le_refl _) _).block z (own_lt9 h1 z hz))
            have PP : Hid (∀ m g4 c4 w4, w4.ownsRow 0 93 2 (.slice (some ⟨g4, 0, none⟩) (q + 1) c4) (q + 1) (flatE (r.G.getD j []) ++ [.int .i64 E, .string t]) → ((w3.drewN m).alloc (.cells #[.int .i64 E, .string t] 93)).grownBy w4 (Value.slice aJ q kJ).ownBlock → ((Value.slice aJ q kJ).ownBlock = some g4 ∨ g4 = ((w3.drewN m).alloc (.cells #[.int .i64 E, .string t] 93)).heap.size) →
                w4.cell? ⟨w.heap.size, 0, none⟩ = some (.slice (some ⟨gb, 0, none⟩) n cg) ∧ w4.cell? ⟨w.heap.size, 2, none⟩ = some (.int .i64 (j : Int)) ∧ w4.cell? ⟨w.heap.size, 3, none⟩ = some (.int .i64 E) ∧ w4.cell? ⟨w.heap.size + 1, 2, none⟩ = some (.string t) ∧ w4.cell? ⟨gb, j, none⟩ = some (.slice aJ q kJ) ∧ (∀ c, w4.frozen? ⟨gb, c, none⟩ = false) ∧ Done (fun q => S q ∨ q = w.heap.size) w3 w.heap.size { r with G := r.G.set j (r.G.getD j [] ++ [(E, t)]) } (w4.setCell ⟨gb, j, none⟩ (.slice (some ⟨g4, 0, none⟩) (q + 1) c4))) := hide (fun m g4 c4 w4 h4 hg4 hn4 => by
              have hA : Below w3.heap.size w3 ((w3.drewN m).alloc (.cells #[.int .i64 E, .string t] 93)) := (below_drewN (Below.refl w3.heap.size w3) m).alloc (Nat.le_refl _) _
              have hWA := HWX.out.below hA
              have hjn' : j < r.G.length := by have := HN.out; omega
              have own := HOJ.out
              rw [← HQ.out] at own
              have keep : ∀ P x, w3.cell? P = some x → (Value.slice aJ q kJ).ownBlock ≠ some P.block → w4.cell? P = some x := fun P x hx hne => by
                have hPA := (hA.cell (blk_lt9 hx)).trans hx
                exact (World.cell?_of_block (hg4.block P.block (blk_lt9 hPA) (fun e => hne e.symm))).trans hPA
              have nb : (Value.slice aJ q kJ).ownBlock ≠ some w.heap.size := fun e => by
                rcases own.2 with ⟨hv, _⟩ | ⟨g, cap, cu, hv, _, hh, _⟩
                · rw [hv] at e; cases e
                · rw [hv] at e
                  have e' : g = w.heap.size := Option.some.inj e
                  rw [e', HX0.out] at hh
                  cases hh
              have ng : (Value.slice aJ q kJ).ownBlock ≠ some gb := fun e => L8.own_two own HWX.out.g t_ge.symm gb e rfl
              have ns : (Value.slice aJ q kJ).ownBlock ≠ some (w.heap.size + 1) := fun e => by
                rcases HWX.out.sl j hjn' (w.heap.size + 1) (by rw [HEJ.out, ← HQ.out]; exact e) with h9 | h9
                · have := hS _ h9; omega
                · omega
              have hlen : (r.G.getD j [] ++ [(E, t)]).length = q + 1 := by rw [List.length_append, ← HQ.out]; rfl
              have hg5 : ((w3.drewN m).alloc (.cells #[.int .i64 E, .string t] 93)).grownBy w4 (V.getD j nilV).ownBlock := by rw [HEJ.out, ← HQ.out]; exact hg4
              have hD := done_log HWX.out HBX.out (.inr rfl) hS3 hA gb cg rfl j hjn' (.slice (some ⟨g4, 0, none⟩) (q + 1) c4) (r.G.getD j [] ++ [(E, t)]) (by rw [hlen, flatE_append]; exact h4) hg5 (fun z hz => by
                rw [HEJ.out, ← HQ.out]
                have hz' : g4 = z := Option.some.inj hz
                rw [← hz']
                rcases hn4 with e | e
                · exact .inl e
                · exact .inr (Nat.le_of_eq e.symm))
              have f4 : ∀ c, w4.frozen? ⟨gb, c, none⟩ = false := fun c => by
                obtain ⟨cu, hh⟩ := row_blk hWA.g
                exact frz ((hg4.block gb (Array.getElem?_eq_some_iff.1 hh).1 (fun e => ng e.symm)).trans hh) c
              exact ⟨keep _ _ g0 nb, keep _ _ g2 nb, keep _ _ g3 nb, keep _ _ s2 ns, keep _ _ lJ ng, f4, hD⟩)
            go_quiet ((go_at_call 92; exact Calls.quiet_of_same ((CP.out _ (below_drewN (Below.refl _ _) _)).mono fun _ _ h => ⟨h.1, h.2.symm⟩)))
            go_upto_region 5 with fail
            refine wp_region_held_drew (S := fun wx => wx.cell? ⟨w.heap.size, 0, none⟩ = some (.slice (some ⟨gb, 0, none⟩) n cg) ∧ wx.cell? ⟨w.heap.size, 2, none⟩ = some (.int .i64 (j : Int)) ∧ wx.cell? ⟨w.heap.size, 3, none⟩ = some (.int .i64 E) ∧ wx.cell? ⟨w.heap.size + 1, 2, none⟩ = some (.string t)) (by kernel_rfl) ⟨g0, g2, g3, s2⟩ (fun hHeld => ?_)
            refine wpAnyH_take (i := 0) (v := ?v1) rfl (by kernel_rfl) (by kernel_rfl) (by kernel_rfl) (fun _ _ _ h => h) (Or.inl ⟨by rfl, ?y1⟩) (by assumption) ?r1
            case y1 => (intro w hSw; (try dsimp only at hSw); go_simp; try (with_reducible rfl))
            simp only [List.getElem_toArray, List.getElem_cons_zero, Act.put, List.setIfInBounds_toArray, List.set_cons_zero, List.set_cons_succ]
            refine wpAnyH_take (i := 1) (v := ?v2) rfl (by kernel_rfl) (by kernel_rfl) (by kernel_rfl) (fun _ _ _ h => h) (Or.inl ⟨by rfl, ?y2⟩) (by assumption) ?r2
            case y2 => (intro w hSw; (try dsimp only at hSw); go_simp; try (with_reducible rfl))
            simp only [List.getElem_toArray, List.getElem_cons_succ, List.getElem_cons_zero, Act.put, List.setIfInBounds_toArray, List.set_cons_zero, List.set_cons_succ]
            refine wpAnyH_take (i := 2) (v := ?v3) rfl (by kernel_rfl) (by kernel_rfl) (by kernel_rfl) (fun _ _ _ h => h) (Or.inl ⟨by rfl, ?y3⟩) (by assumption) ?r3
            case y3 => (intro w hSw; (try dsimp only at hSw); go_simp; try (with_reducible rfl))
            simp only [List.getElem_toArray, List.getElem_cons_succ, List.getElem_cons_zero, Act.put, List.setIfInBounds_toArray, List.set_cons_zero, List.set_cons_succ]
            refine wpAnyH_take (i := 3) (v := ?v4) rfl (by kernel_rfl) (by kernel_rfl) (by kernel_rfl) (fun _ _ _ h => h) (Or.inl ⟨by rfl, ?y4⟩) (by assumption) ?r4
            case y4 => (intro w hSw; (try dsimp only at hSw); go_simp; try (with_reducible rfl))
            simp only [List.getElem_toArray, List.getElem_cons_succ, List.getElem_cons_zero, Act.put, List.setIfInBounds_toArray, List.set_cons_zero, List.set_cons_succ]
            refine wpAnyH_take (i := 4) (v := ?v5) rfl (by kernel_rfl) (by kernel_rfl) (by kernel_rfl) (fun _ _ _ h => h) (Or.inl ⟨by rfl, ?y5⟩) (by assumption) ?r5
            case y5 => (intro w hSw; (try dsimp only at hSw); go_simp; try (with_reducible rfl))
            simp only [List.getElem_toArray, List.getElem_cons_succ, List.getElem_cons_zero, Act.put, List.setIfInBounds_toArray, List.set_cons_zero, List.set_cons_succ]
            refine wpAnyH_take (i := 5) (v := ?v6) rfl (by kernel_rfl) (by kernel_rfl) (by kernel_rfl) (fun _ _ _ h => h) (Or.inl ⟨by rfl, ?y6⟩) (by assumption) ?r6
            case y6 => (intro w hSw; (try dsimp only at hSw); go_simp; try (with_reducible rfl))
            simp only [List.getElem_toArray, List.getElem_cons_succ, List.getElem_cons_zero, Act.put, List.setIfInBounds_toArray, List.set_cons_zero, List.set_cons_succ]
            refine wpAnyH_take (i := 6) (v := ?v7) rfl (by kernel_rfl) (by kernel_rfl) (by kernel_rfl) (fun _ _ _ h => h) (Or.inl ⟨by rfl, ?y7⟩) (by assumption) ?r7
            case y7 => (intro w hSw; (try dsimp only at hSw); go_simp; try (with_reducible rfl))
            simp only [List.getElem_toArray, List.getElem_cons_succ, List.getElem_cons_zero, Act.put, List.setIfInBounds_toArray, List.set_cons_zero, List.set_cons_succ]
            refine wpAnyH_take (i := 7) (v := ?v8) rfl (by kernel_rfl) (by kernel_rfl) (by kernel_rfl) (fun _ _ _ h => h) (Or.inl ⟨by rfl, ?y8⟩) (by assumption) ?r8
            case y8 => (intro w hSw; (try dsimp only at hSw); go_simp; try (with_reducible rfl))
            simp only [List.getElem_toArray, List.getElem_cons_succ, List.getElem_cons_zero, Act.put, List.setIfInBounds_toArray, List.set_cons_zero, List.set_cons_succ]
            refine wpAnyH_take (i := 8) (v := ?v9) rfl (by kernel_rfl) (by kernel_rfl) (by kernel_rfl) (fun _ _ _ h => h) (Or.inl ⟨by rfl, ?y9⟩) (by assumption) ?r9
            case y9 => (intro w hSw; (try dsimp only at hSw); go_simp; try (with_reducible rfl))
            simp only [List.getElem_toArray, List.getElem_cons_succ, List.getElem_cons_zero, Act.put, List.setIfInBounds_toArray, List.set_cons_zero, List.set_cons_succ]
            refine wpAnyH_take (i := 9) (v := ?v10) rfl (by kernel_rfl) (by kernel_rfl) (by kernel_rfl) (fun _ _ _ h => h) (Or.inl ⟨by rfl, ?y10⟩) (by assumption) ?r10
            case y10 => (intro w hSw; (try dsimp only at hSw); go_simp; try (with_reducible rfl))
            simp only [List.getElem_toArray, List.getElem_cons_succ, List.getElem_cons_zero, Act.put, List.setIfInBounds_toArray, List.set_cons_zero, List.set_cons_succ]
            refine wpAnyH_ready (rs := [10]) (by kernel_rfl) (by simp) ?_
            refine AllReadyH.cons rfl (fun K hK => ?_) AllReadyH.nil
            simp only [List.getElem_toArray, List.getElem_cons_succ, List.getElem_cons_zero]
            go_simp
            refine hK.out _ _ ?_ (fun hHeld => ?_)
            · exact ⟨Go.Lib.cell?_alloc_some _ hHeld.1, Go.Lib.cell?_alloc_some _ hHeld.2.1, Go.Lib.cell?_alloc_some _ hHeld.2.2.1, Go.Lib.cell?_alloc_some _ hHeld.2.2.2⟩
            clear hK K
            try simp only [Act.put, List.setIfInBounds_toArray, List.set_cons_zero, List.set_cons_succ]
            refine wpAnyH_ready (rs := [11]) (by kernel_rfl) (by simp) ?_
            refine AllReadyH.cons rfl (fun K hK => ?_) AllReadyH.nil
            simp only [List.getElem_toArray, List.getElem_cons_succ, List.getElem_cons_zero]
            rw [if_pos (by rfl)]
            refine wp_append_lies _ (.tmp 57) (.tmp 63) 30 rfl 0 93 i0 (.agg #[.int .i64 0, .string ByteArray.empty]) 2 24 Try.underlying30 hi hz0 hz1 hz2 rfl (by decide) (.slice aJ q kJ) q (flatE (r.G.getD j [])) rfl (HOX.out _) ⟨_, 0, none⟩ 1 1 [.int .i64 E, .string t] rfl rfl (cell_two_newT _ _ _ _) (by intro u hu; simp at hu; rcases hu with rfl | rfl <;> rfl) (by decide) (by unfold maxLen; omega) (by omega) (Nat.zero_le _) _ rfl ?_
            intro g4' c4' w4 h4 hg4 hn4 _
            obtain ⟨x0, x2, x3, x5, xg, xf, pp⟩ := PP.out _ g4' c4' w4 h4 hg4 hn4
            have HPP := hide pp
            clear pp h4 hg4 hn4
            refine hK.out _ _ ?_ (fun hHeld => ?_)
            · exact ⟨x0, x2, x3, x5⟩
            clear hK K
            try simp only [Act.put, List.setIfInBounds_toArray, List.set_cons_zero, List.set_cons_succ]
            refine wpAnyH_take (i := 12) (v := ?v11) rfl (by kernel_rfl) (by kernel_rfl) (by kernel_rfl) (fun _ _ _ h => h) (Or.inl ⟨by rfl, ?y11⟩) (by assumption) ?r11
            case y11 => (intro w hSw; (try dsimp only at hSw); go_simp; try (with_reducible rfl))
            simp only [List.getElem_toArray, List.getElem_cons_succ, List.getElem_cons_zero, Act.put, List.setIfInBounds_toArray, List.set_cons_zero, List.set_cons_succ]
            refine wpAnyH_ready (rs := [13]) (by kernel_rfl) (by simp) ?_
            refine AllReadyH.cons rfl (fun K hK => ?_) AllReadyH.nil
            simp only [List.getElem_toArray, List.getElem_cons_succ, List.getElem_cons_zero]
            go_simp
            refine hK.out _ _ ?_ (fun hHeld => ?_)
            · exact ⟨(cell_set9 hbg).trans x0, (cell_set9 hbg).trans x2, (cell_set9 hbg).trans x3, (cell_set9 hsg).trans x5⟩
            clear hK K
            try simp only [Act.put, List.setIfInBounds_toArray, List.set_cons_zero, List.set_cons_succ]
            refine wpAnyH_done (by kernel_rfl) ?_ _
            clear hHeld
            go_upto_region 6 with fail
            have e1 : ({ r with G := r.G.set r.ld.toNat (r.lead ++ [(r.ep, t)]) } : Rm) = { r with G := r.G.set j (r.G.getD j [] ++ [(E, t)]) } := by
              have e2 : r.G.set r.ld.toNat (r.G.getD r.ld.toNat [] ++ [(r.ep, t)]) = r.G.set j (r.G.getD j [] ++ [(E, t)]) := by rw [HLD.out, Int.toNat_natCast, ← HEP.out]
              show ({ r with G := r.G.set r.ld.toNat (r.G.getD r.ld.toNat [] ++ [(r.ep, t)]) } : Rm) = _
              rw [e2]
            have hD : Done (fun q => S q ∨ q = w.heap.size) w3 w.heap.size { r with G := r.G.set r.ld.toNat (r.lead ++ [(r.ep, t)]) } (w4.setCell ⟨gb, j, none⟩ (.slice (some ⟨g4', 0, none⟩) (q + 1) c4')) := by rw [e1]; exact HPP.out
            obtain ⟨w5, hw5⟩ : ∃ w5, w5 = w4.setCell ⟨gb, j, none⟩ (.slice (some ⟨g4', 0, none⟩) (q + 1) c4') := ⟨_, rfl⟩
            rw [← hw5] at hD ⊢
            rw [← hR] at hD
            have e0 : o = some R := by rw [hoo, hR]; first | done | rfl
            subst e0
            clear hw5 hoo hR e1
            obtain ⟨gb', cg', db', cd', ay', cy', ac', cc', hb5, hz5, fin⟩ := OUT.out R w5 hD hIR
            obtain ⟨k0, k1, k2, k3, k4, k5⟩ := blk6 hb5
            obtain ⟨y0, y1, y2, y3, y4, y5⟩ := blk6 hz5
            have yf : ∀ c, w5.frozen? ⟨w.heap.size + 2, c, none⟩ = false := fun c => frz hz5 c
            obtain ⟨n1, hn1⟩ : ∃ x, x = R.G.length := ⟨_, rfl⟩
            obtain ⟨n2, hn2⟩ : ∃ x, x = R.dn.length := ⟨_, rfl⟩
            obtain ⟨n3, hn3⟩ : ∃ x, x = R.sy.length := ⟨_, rfl⟩
            obtain ⟨n4, hn4⟩ : ∃ x, x = R.ce.length := ⟨_, rfl⟩
            obtain ⟨x1, hx1⟩ : ∃ x, x = R.ld := ⟨_, rfl⟩
            obtain ⟨x2, hx2⟩ : ∃ x, x = R.ep := ⟨_, rfl⟩
            have FIN := hide fin
            simp only [← hn1, ← hn2, ← hn3, ← hn4, ← hx1, ← hx2] at FIN k0 k1 k2 k3 k4 k5
            clear hn1 hn2 hn3 hn4 hx1 hx2 hb5 hz5 fin hD hIR g0 g1 g2 g3 g4 g5 z0 z1 z2 z3 z4 z5
            go_wp2
            refine bodyPost_ret (v := .tuple #[rpV (some ⟨gb', 0, none⟩) n1 cg' (some ⟨db', 0, none⟩) n2 cd' x1 x2 ay' n3 cy' ac' n4 cc', .bool true]) (by simp [results, Try.f80, go_sem, y0, y1, y2, y3, y4, y5]) rfl ?_
            exact FIN.out _ _ _ _ _ _

      · have ht3 : decide (20 < (t.size : Int)) = true := by simp; omega
        have ht3' : 20 < (t.size : Int) := by omega
        have hoo := HO.out
        rw [if_neg (fun h => ht2 h.2.1)] at hoo
        subst hoo
        go_quiet ((go_at_call 92; exact Calls.quiet_of_same ((CP.out _ (below_drewN (Below.refl _ _) _)).mono fun _ _ h => ⟨h.1, h.2.symm⟩)))
        go_wp2
        refine bodyPost_ret (v := .tuple #[rpV (some ⟨gb, 0, none⟩) n cg (some ⟨db, 0, none⟩) n cd (j : Int) E ay ny cy ac nc cc, .bool false]) (by simp [results, Try.f80, go_sem, z0, z1, z2, z3, z4, z5]) rfl ?_
        exact SAME.out _ (below_drewN HB0.out _) _ _ _ _ _ _

  · have hn1 : (nd != 0) = true := by simp [hn0]
    have hoo := HO.out
    rw [if_neg (fun h => hn0 h.1)] at hoo
    subst hoo
    go_quiet ((go_at_call 92; exact Calls.quiet_of_same ((CP.out _ (below_drewN (Below.refl _ _) _)).mono fun _ _ h => ⟨h.1, h.2.symm⟩)))
    go_wp2
    refine bodyPost_ret (v := .tuple #[rpV (some ⟨gb, 0, none⟩) n cg (some ⟨db, 0, none⟩) n cd (j : Int) E ay ny cy ac nc cc, .bool false]) (by simp [results, Try.f80, go_sem, z0, z1, z2, z3, z4, z5]) rfl ?_
    exact SAME.out _ (below_drewN HB0.out _) _ _ _ _ _ _
end Go.Proofs.Ythmekhhfihjclbd.L9

namespace Go.Proofs.Ythmekhhfihjclbd.L7
open Go.RowKit L1
set_option linter.unusedVariables false

set_option maxRecDepth 100000 in
set_option maxHeartbeats 2000000 in
theorem l7Starts_any (a : Option Addr) (l : List En) (n cap : Nat) (w : World) (hn : l.length = n) (hs : SlE w a l) (hn2 : n ≤ 1048576) :
    Calls Try.prog 94 #[.slice a n cap] w fun e w' => RetS w (sts l) e w' := by
  obtain ⟨i1, hi1, hy0, hy1, hy2⟩ := info_parts info_sta
  have HS := hide hs
  have HN := hide hn
  have HR : Hid (sts l = stsK l n) := by show sts l = _; unfold sts; rw [HN.out]
  clear hs hn
  go_enter Try.func94, Try.ntmps94
  go_wp2
  go_loopw [3, 8] (fun ot i wr => ∃ k : Nat, k ≤ n ∧ i = .int .i64 k ∧ wr.ownsRow w.heap.size 117 2 ot (stsK l k).length (flatS (stsK l k)) ∧ Below w.heap.size w wr) (fun _ i _ => n - (intOf i).toNat)
  case atStart => exact ⟨0, Nat.zero_le _, rfl, World.ownsRow_nil _ _ _ _, Below.refl _ _⟩
  case round =>
    obtain ⟨k, hk, rfl, hown, hbel⟩ := hrel
    obtain ⟨oa, ocap, rfl, _, _⟩ := own_formS hown
    by_cases hlt : k < n
    · obtain ⟨b, off, rfl, hc0, hd0⟩ := HS.out k (by rw [HN.out]; exact hlt)
      have hc := (hbel.cell (p := ⟨b, off + k * 2, none⟩) (blk_lt hc0)).trans hc0
      have hd := (hbel.cell (p := ⟨b, off + k * 2 + 1, none⟩) (blk_lt hd0)).trans hd0
      have hltI : (k : Int) < (n : Int) := by omega
      have hml : (stsK l k).length ≤ 1048576 := by have := stsK_len l k; omega
      have hyes := stsK_yes l k
      have hno := stsK_no l k
      have hprev : ∀ j, k = j + 1 → wr.cell? ⟨b, off + j * 2, none⟩ = some (.int .i64 (l.getD j eE).1) := fun j e => by
        obtain ⟨b', off', ha, hp, _⟩ := HS.out j (by rw [HN.out]; omega)
        simp only [Option.some.injEq, Addr.mk.injEq, and_true] at ha
        obtain ⟨rfl, rfl⟩ := ha
        exact (hbel.cell (p := ⟨b, off + j * 2, none⟩) (blk_lt hp)).trans hp
      obtain ⟨x, hx⟩ : ∃ x, x = (l.getD k eE).1 := ⟨_, rfl⟩
      obtain ⟨y, hy⟩ : ∃ y, y = (l.getD k eE).2 := ⟨_, rfl⟩
      rw [← hx] at hc hyes hno
      rw [← hy] at hd
      obtain ⟨ns, hns⟩ : ∃ ns, ns = stsK l k := ⟨_, rfl⟩
      rw [← hns] at hown hml hyes hno ⊢
      obtain ⟨m, hm⟩ : ∃ m, m = ns.length := ⟨_, rfl⟩
      rw [← hm] at hown hml ⊢
      have HM := hide hm
      have HROW := hide hown
      have hsz := hbel.size
      have B0 := hide hbel
      have HYES := hide hyes
      have HNO := hide hno
      have HPREV := hide hprev
      clear hc0 hd0 hx hy hns hown hbel hm hyes hno hprev
      cases k with
      | zero =>
        have HTK := hide (HYES.out (.inl rfl))
        simp only [Nat.zero_mul, Nat.add_zero] at hc hd
        go_wp2
        go_quiet (fail)
        go_wp2_with (first
          | (at_builtin; refine wpList_append_own _ rfl _ _ 107 rfl w.heap.size 117 i1 (.agg #[.int .i64 0, .int .i64 0]) 2 16 Try.underlying107 hi1 hy0 hy1 hy2 rfl (by decide) _ _ _ rfl (((own_drewN (HROW.out.alloc _) _)).alloc _) ⟨wr.heap.size + 1, 0, none⟩ 1 1 [.int .i64 x, .int .i64 0] rfl rfl (cell_two_newD _ _ _ _ _ _) (by intro u hu; simp at hu; rcases hu with rfl | rfl <;> rfl) (by unfold maxLen; omega) (by omega) (by simp; omega) ?_)
          | go_in)
        intro v6 w6 hown6 hgrow6 _
        have hb6 := B0.out.trans (((below_dN ((Below.refl _ _).alloc hsz _) _).alloc (by simp; omega) _) |>.grown hgrow6 (by simp; omega) (fun g hg => (HROW.out.lt g hg).1))
        have hown8 : w6.ownsRow w.heap.size 117 2 v6 (stsK l (0 + 1)).length (flatS (stsK l (0 + 1))) := by
          rw [HTK.out, flatS_append, List.length_append, ← HM.out]; simpa [flatS] using hown6
        have hown7 := hide hown8
        clear hown6 hgrow6 hown8
        go_wp2
        go_roundw
        case rel => exact ⟨0 + 1, by omega, by go_num, hown7.out, hb6⟩
        case measure => simp [intOf]; omega
      | succ j =>
        have hp := HPREV.out j rfl
        obtain ⟨px, hpx⟩ : ∃ px, px = (l.getD j eE).1 := ⟨_, rfl⟩
        rw [← hpx] at hp
        have hjI : (j : Int) < (n : Int) := by omega
        have hj0 : (0 : Int) ≤ (j : Int) := by omega
        have hwj : IntKind.i64.wrap (j : Int) = (j : Int) := by
          simp only [IntKind.wrap, IntKind.bits, IntKind.signed]
          simp
          omega
        have hjn : ((j : Int) + 1 == 0) = false := by simp; omega
        have hpa : ∀ ob, (wr.alloc ob).cell? ⟨b, off + j * 2, none⟩ = some (.int .i64 px) := fun ob => Go.Lib.cell?_alloc_some ob hp
        by_cases hne : px = x
        · have hne' : (px != x) = false := by simp [hne]
          have e := HNO.out (by rw [Nat.add_sub_cancel, ← hpx]; simp [hne])
          have HTK := hide e
          clear hne hpx e HPREV HYES HNO
          go_wp2
          go_quiet (fail)
          go_wp2
          go_roundw
          case rel => exact ⟨j + 1 + 1, by omega, by go_num, by rw [HTK.out, ← HM.out]; exact own_drewN (HROW.out.alloc _) _, below_dN (B0.out.alloc B0.out.size _) _⟩
          case measure => simp [intOf]; omega
        · have hne' : (px != x) = true := by simp; omega
          have e := HYES.out (.inr (by rw [Nat.add_sub_cancel, ← hpx]; exact hne))
          have HTK := hide e
          clear hne hpx e HPREV HYES HNO
          go_wp2
          go_quiet (fail)
          go_wp2_with (first
            | (at_builtin; refine wpList_append_own _ rfl _ _ 107 rfl w.heap.size 117 i1 (.agg #[.int .i64 0, .int .i64 0]) 2 16 Try.underlying107 hi1 hy0 hy1 hy2 rfl (by decide) _ _ _ rfl (((own_drewN (HROW.out.alloc _) _)).alloc _) ⟨wr.heap.size + 1, 0, none⟩ 1 1 [.int .i64 x, .int .i64 ((j : Int) + 1)] rfl rfl (cell_two_newD _ _ _ _ _ _) (by intro u hu; simp at hu; rcases hu with rfl | rfl <;> rfl) (by unfold maxLen; omega) (by omega) (by simp; omega) ?_)
            | go_in)
          intro v6 w6 hown6 hgrow6 _
          have hb6 := B0.out.trans (((below_dN ((Below.refl _ _).alloc hsz _) _).alloc (by simp; omega) _) |>.grown hgrow6 (by simp; omega) (fun g hg => (HROW.out.lt g hg).1))
          have hown8 : w6.ownsRow w.heap.size 117 2 v6 (stsK l (j + 1 + 1)).length (flatS (stsK l (j + 1 + 1))) := by
            rw [HTK.out, flatS_append, List.length_append, ← HM.out]; simpa [flatS] using hown6
          have hown7 := hide hown8
          clear hown6 hgrow6 hown8
          go_wp2
          go_roundw
          case rel => exact ⟨j + 1 + 1, by omega, by go_num, hown7.out, hb6⟩
          case measure => simp [intOf]; omega
    · obtain rfl : k = n := by omega
      have HO := hide hown
      have hltI : ¬ (k : Int) < (k : Int) := by omega
      clear hown
      go_wp2
      go_ret
      exact ⟨_, rfl, by rw [HR.out]; exact HO.out, hbel⟩
end Go.Proofs.Ythmekhhfihjclbd.L7

namespace Go.Proofs.Ythmekhhfihjclbd.L7
open Go.RowKit L1
set_option linter.unusedVariables false

set_option maxRecDepth 100000 in
set_option maxHeartbeats 2000000 in
theorem l7End_any (a : Option Addr) (l : List En) (n cap : Nat) (ep : Int) (w : World) (hn : l.length = n) (hs : SlE w a l) (hn2 : n ≤ 1048576) :
    Calls Try.prog 107 #[.slice a n cap, .int .i64 ep] w fun e w' => e = .returned (.int .i64 (endE l ep : Int)) ∧ Below w.heap.size w w' := by
  have HS := hide hs
  have HN := hide hn
  have HR : Hid (endE l ep = endK l ep n) := by show endE l ep = _; unfold endE; rw [HN.out]
  clear hs hn
  go_enter Try.func107, Try.ntmps107
  go_wp2
  go_loopw [5, 10] (fun t i wr => ∃ k : Nat, k ≤ n ∧ i = .int .i64 k ∧ t = .int .i64 (endK l ep k : Int) ∧ Below w.heap.size w wr) (fun _ i _ => n - (intOf i).toNat)
  case atStart => exact ⟨0, Nat.zero_le _, rfl, rfl, Below.refl _ _⟩
  case round =>
    obtain ⟨k, hk, rfl, rfl, hbel⟩ := hrel
    by_cases hlt : k < n
    · obtain ⟨b, off, rfl, hc0, hd0⟩ := HS.out k (by rw [HN.out]; exact hlt)
      have hc := (hbel.cell (p := ⟨b, off + k * 2, none⟩) (blk_lt hc0)).trans hc0
      have hd := (hbel.cell (p := ⟨b, off + k * 2 + 1, none⟩) (blk_lt hd0)).trans hd0
      have hltI : (k : Int) < (n : Int) := by omega
      have hst : endK l ep (k + 1) = endK l ep k + if (l.getD k eE).1 ≤ ep then 1 else 0 := rfl
      have hle := endK_le l ep k
      obtain ⟨x, hx⟩ : ∃ x, x = (l.getD k eE).1 := ⟨_, rfl⟩
      obtain ⟨y, hy⟩ : ∃ y, y = (l.getD k eE).2 := ⟨_, rfl⟩
      rw [← hx] at hc hst
      rw [← hy] at hd
      obtain ⟨q, hq⟩ : ∃ q, q = endK l ep k := ⟨_, rfl⟩
      rw [← hq] at hst hle ⊢
      have B0 := hide hbel
      clear hc0 hd0 hx hy hq hbel
      by_cases hg : x ≤ ep
      · rw [if_pos hg] at hst
        have HST := hide hst
        clear hst
        go_wp2
        go_roundw
        case rel => exact ⟨k + 1, by omega, by go_num, by rw [HST.out]; go_num, B0.out.alloc B0.out.size _⟩
        case measure => simp [intOf]; omega
      · rw [if_neg hg] at hst
        have HST := hide hst
        clear hst
        go_wp2
        go_roundw
        case rel => exact ⟨k + 1, by omega, by go_num, by rw [HST.out]; rfl, B0.out.alloc B0.out.size _⟩
        case measure => simp [intOf]; omega
    · obtain rfl : k = n := by omega
      have hltI : ¬ (k : Int) < (k : Int) := by omega
      rw [← HR.out]
      go_wp2
      go_ret
      exact ⟨rfl, hbel⟩
end Go.Proofs.Ythmekhhfihjclbd.L7
