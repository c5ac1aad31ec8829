/-
  Contract: spec.l7Find.
  Contract: spec.l9Do, steps of kind 2.
  Contract: spec.l9Do, steps of kind 3.
  Contract: spec.l1Put of a number that is not there: new memory.
  Contract: spec.l7Part tells where two lists of entries part.
  Contract: spec.l9Same.
  Contract: spec.l9Do, steps of kind 4.
  Contract: spec.l9Do, steps of kind 5.
-/
import Derived.Test.YthmekhhfihjclbdBundle1
import Derived.Test.YthmekhhfihjclbdBundle9
import Derived.Test.YthmekhhfihjclbdBundle6
import Derived.Deep.DeepCutAuto
import Derived.Test.YthmekhhfihjclbdBundle2
import Derived.Test.YthmekhhfihjclbdBundle5
import Derived.Deep.RegionHeld3
import Derived.Test.YthmekhhfihjclbdBundle7
import Derived.Test.YthmekhhfihjclbdBundle4
namespace Go.Proofs.Ythmekhhfihjclbd.L7
open Go.RowKit L1
set_option linter.unusedVariables false

set_option maxRecDepth 100000 in
set_option maxHeartbeats 4000000 in
theorem l7Find_any (a b : Option Addr) (l : List En) (st : List (Int × Int)) (n c1 m c2 : Nat) (en : Int) (w : World) (hn : l.length = n) (hs : SlE w a l) (hn2 : n ≤ 1048576) (hm : st.length = m) (ht : SlS w b st) (hm2 : m ≤ 1048576) (p q : Int) (hpq : find l st en = (p, q)) :
    Calls Try.prog 93 #[.slice a n c1, .slice b m c2, .int .i64 en] w fun e w' => e = .returned (.tuple #[.int .i64 p, .int .i64 q]) ∧ Below w.heap.size w w' := by
  have CS := l7Starts_any a l n c1 w hn hs hn2
  have hsl := sts_le l
  unfold find at hpq
  obtain ⟨S, hS⟩ : ∃ S, S = sts l := ⟨_, rfl⟩
  simp only [RetS, ← hS] at CS
  rw [← hS] at hsl hpq
  obtain ⟨sn, hsn⟩ : ∃ sn, sn = S.length := ⟨_, rfl⟩
  simp only [← hsn] at CS
  rw [← hsn] at hsl hpq
  rw [hn] at hsl
  have HCS := hide CS
  have HPQ := hide hpq
  have HSN := hide hsn
  have HS := hide hs
  have HT := hide ht
  have HN := hide hn
  have HM := hide hm
  clear CS hpq hsn hS hs ht hn hm 
  go_enter Try.func93, Try.ntmps93
  go_wp2_with fail
  refine HCS.out.mono ?_
  rintro e w1 ⟨v1, rfl, ho1, hb1⟩
  obtain ⟨sa, scap, rfl, hs1, _⟩ := own_formS ho1
  have B1 := hide hb1
  have S1 := hide (HS.out.below hb1)
  have T1 := hide (HT.out.below hb1)
  have O1 := hide hs1
  clear ho1 hs1 hb1 HS HT HCS
  have hsnI : ((sn : Int) - 1) ≤ 1048576 := by omega
  go_wp2
  go_loopw [9, 10] (fun LK i wr => ∃ (k : Nat) (z Q : Int), k ≤ sn ∧ i = .int .i64 z ∧ Hid (z = (k : Int) - 1) ∧ LK = .int .i64 Q ∧ Hid (Q + (k : Int) = (sn : Int)) ∧ Hid (fnd l S st en k Q = (p, q)) ∧ Below w1.heap.size w1 wr) (fun _ i _ => (intOf i + 1).toNat)
  case atStart => exact ⟨sn, (sn : Int) - 1, 0, Nat.le_refl _, rfl, rfl, rfl, by show (0 : Int) + (sn : Int) = (sn : Int); omega, HPQ.out, Below.refl _ _⟩
  case round =>
    obtain ⟨k, z, Q, hk, rfl, HZ, rfl, HQ, HF, hbel⟩ := hrel
    cases k with
    | zero =>
      have hz : ¬ 0 ≤ z := by have := HZ.out; omega
      have e : (0, Q) = (p, q) := HF.out
      cases e
      have BB := hide (B1.out.trans (hbel.mono B1.out.size))
      clear hbel
      go_wp2
      go_ret2
      exact ⟨rfl, BB.out⟩
    | succ k =>
      obtain rfl : z = (k : Int) := by have := HZ.out; omega
      obtain ⟨b1, o1, rfl, hc0, _⟩ := O1.out k (by rw [← HSN.out]; omega)
      have hk0 : (0 : Int) ≤ (k : Int) := by omega
      have hkI : (k : Int) < (sn : Int) := by omega
      have hfs := fun i => @fnd_some l S st en k i Q
      have hfn := @fnd_none l S st en k Q
      rw [HF.out] at hfn
      simp only [HF.out] at hfs
      have hQ : 0 ≤ Q ∧ Q ≤ 1048576 := by have := HQ.out; omega
      obtain ⟨ep, hep⟩ : ∃ ep, ep = (S.getD k (0, 0)).1 := ⟨_, rfl⟩
      rw [← hep] at hc0 hfn
      simp only [← hep] at hfs
      have HFS := hide hfs
      have HFN := hide hfn
      have HO := hide hc0
      have FB : Hid (∀ w', Below wr.heap.size wr w' → Below w1.heap.size w1 w') := fun w' h => hbel.trans (h.mono hbel.size)
      have hQ0 := hQ.1
      have hQ1 := hQ.2
      obtain ⟨W0, hW0⟩ : ∃ W0, W0 = wr := ⟨_, rfl⟩
      have FB0 : Hid (∀ w', Below W0.heap.size W0 w' → Below w1.heap.size w1 w') := by rw [hW0]; exact FB
      have BW0 : Hid (Below w1.heap.size w1 W0) := by rw [hW0]; exact hbel
      have HQ2 : Hid (Q + 1 + (k : Int) = (sn : Int)) := by show Q + 1 + (k : Int) = (sn : Int); have := HQ.out; omega
      clear hc0 hep hfs hfn hbel HF HZ HQ FB hQ
      go_wp2
      rw [← hW0]
      clear hW0
      go_loopw [28] (fun i wq => ∃ j : Nat, j ≤ m ∧ i = .int .i64 j ∧ Hid (∀ i, i < j → (st.getD i (0, 0)).1 ≠ ep) ∧ Below W0.heap.size W0 wq) (fun i _ => m - (intOf i).toNat)
      case atStart => exact ⟨0, Nat.zero_le _, rfl, fun i hi => absurd hi (Nat.not_lt_zero _), Below.refl _ _⟩
      case round =>
        obtain ⟨j, hj, rfl, HJ, hbq⟩ := hrel
        by_cases hjm : j < m
        · obtain ⟨b2, o2, rfl, p1, p2⟩ := T1.out j (by rw [HM.out]; exact hjm)
          have g1 := ((BW0.out.trans (hbq.mono BW0.out.size)).cell (p := ⟨b2, o2 + j * 2, none⟩) (blk_lt p1)).trans p1
          have g2 := ((BW0.out.trans (hbq.mono BW0.out.size)).cell (p := ⟨b2, o2 + j * 2 + 1, none⟩) (blk_lt p2)).trans p2
          have g3 := ((BW0.out.trans (hbq.mono BW0.out.size)).cell (p := ⟨b1, o1 + k * 2, none⟩) (blk_lt HO.out)).trans HO.out
          have g3a : ∀ ob, (wr.alloc ob).cell? ⟨b1, o1 + k * 2, none⟩ = some (.int .i64 ep) := fun ob => Go.Lib.cell?_alloc_some ob g3
          have hjI : (j : Int) < (m : Int) := by omega
          obtain ⟨x, hx⟩ : ∃ x, x = (st.getD j (0, 0)).1 := ⟨_, rfl⟩
          obtain ⟨y, hy⟩ : ∃ y, y = (st.getD j (0, 0)).2 := ⟨_, rfl⟩
          rw [← hx] at g1
          rw [← hy] at g2
          have HX := hide hx
          have D0 := hide hbq
          clear p1 p2 hx hy hbq
          by_cases h2 : x = ep
          · have HID : Hid (idx st ep = some j) := idx_some st ep j (by rw [HM.out]; exact hjm) (by rw [← HX.out]; exact h2) HJ.out
            have hfe := HFS.out j HID.out
            subst h2
            have h2' : (x != x) = false := by simp
            have CE := fun w hs => l7End_any a l n c1 x w HN.out hs hn2
            have hle := endK_le l x l.length
            obtain ⟨E, hE⟩ : ∃ E, E = endE l x := ⟨_, rfl⟩
            rw [← hE] at hfe
            simp only [← hE] at CE
            have hE2 : E ≤ 1048576 := by rw [hE]; unfold endE; rw [HN.out] at hle ⊢; omega
            have hq : q = Q + 1 := congrArg Prod.snd hfe
            have hmin0 : p = min (E : Int) (nxt st j en) := congrArg Prod.fst hfe
            have HCE := hide CE
            have HQQ := hide hq
            clear hE CE hle hq hfe
            by_cases h3 : (j : Int) + 1 < (m : Int)
            · obtain ⟨b4, o4, hab, _, r2⟩ := T1.out (j + 1) (by rw [HM.out]; omega)
              cases hab
              have hnx : nxt st j en = (st.getD (j + 1) (0, 0)).2 := by unfold nxt; rw [if_pos (by rw [HM.out]; omega)]
              rw [hnx] at hmin0
              obtain ⟨u, hu⟩ : ∃ u, u = (st.getD (j + 1) (0, 0)).2 := ⟨_, rfl⟩
              rw [← hu] at r2 hmin0
              have g4 : ∀ N ob, ((wr.alloc ob).drewN N).cell? ⟨b2, o2 + (j + 1) * 2 + 1, none⟩ = some (.int .i64 u) := fun N ob => ((FB0.out _ (below_dN (D0.out.alloc D0.out.size ob) N)).cell (p := ⟨b2, o2 + (j + 1) * 2 + 1, none⟩) (blk_lt r2)).trans r2
              have hj1 : (0 : Int) ≤ (j : Int) + 1 := by omega
              have HMIN := hide hmin0
              clear hnx hu r2 hmin0
              go_wp2
              go_quiet (fail)
              go_wp2_with fail
              have BX : Hid (∀ N, Below w1.heap.size w1 ((wr.alloc (.cells #[.int .i64 x, .int .i64 y] 117)).drewN N)) := fun N => FB0.out _ (below_dN (D0.out.alloc D0.out.size _) _)
              refine (HCE.out _ (S1.out.below (BX.out _))).mono ?_
              rintro e w3 ⟨rfl, hb3⟩
              have BB := hide (B1.out.trans (((BX.out _).trans (hb3.mono (BX.out _).size)).mono B1.out.size))
              clear hb3 BX
              by_cases hc : (E : Int) < u
              · have hp : Hid (p = (E : Int)) := by have := HMIN.out; show p = (E : Int); omega
                go_wp2
                go_ret2
                exact ⟨by rw [HQQ.out, hp.out]; rfl, BB.out⟩
              · have hp : Hid (p = u) := by have := HMIN.out; show p = u; omega
                go_wp2
                go_ret2
                exact ⟨by rw [HQQ.out, hp.out]; rfl, BB.out⟩
            · have hnx : nxt st j en = en := by unfold nxt; rw [if_neg (by rw [HM.out]; omega)]
              rw [hnx] at hmin0
              have HMIN := hide hmin0
              clear hnx hmin0
              go_wp2
              go_quiet (fail)
              go_wp2_with fail
              have BX : Hid (∀ N, Below w1.heap.size w1 ((wr.alloc (.cells #[.int .i64 x, .int .i64 y] 117)).drewN N)) := fun N => FB0.out _ (below_dN (D0.out.alloc D0.out.size _) _)
              refine (HCE.out _ (S1.out.below (BX.out _))).mono ?_
              rintro e w3 ⟨rfl, hb3⟩
              have BB := hide (B1.out.trans (((BX.out _).trans (hb3.mono (BX.out _).size)).mono B1.out.size))
              clear hb3 BX
              by_cases hc : (E : Int) < en
              · have hp : Hid (p = (E : Int)) := by have := HMIN.out; show p = (E : Int); omega
                go_wp2
                go_ret2
                exact ⟨by rw [HQQ.out, hp.out]; rfl, BB.out⟩
              · have hp : Hid (p = en) := by have := HMIN.out; show p = en; omega
                go_wp2
                go_ret2
                exact ⟨by rw [HQQ.out, hp.out]; rfl, BB.out⟩
          · have h2' : (x != ep) = true := by simpa using h2
            go_wp2
            go_quiet (fail)
            go_wp2
            go_roundw
            case rel =>
              refine ⟨j + 1, by omega, by go_num, fun i hi => ?_, below_dN (D0.out.alloc D0.out.size _) _⟩
              by_cases e : i = j
              · rw [e, ← HX.out]; exact h2
              · exact HJ.out i (by omega)
            case measure => simp [intOf]; omega
        · have hjI : ¬ (j : Int) < (m : Int) := by omega
          have HID : Hid (idx st ep = none) := idx_none st ep (fun i hi => HJ.out i (by rw [HM.out] at hi; omega))
          have HF2 := hide (HFN.out HID.out).symm
          have BN := hide (FB0.out _ hbq)
          go_wp2
          go_roundw
          case rel => exact ⟨k, (k : Int) - 1, Q + 1, by omega, by go_num, rfl, by go_num, HQ2.out, HF2.out, BN.out⟩
          case measure => simp [intOf]
end Go.Proofs.Ythmekhhfihjclbd.L7

namespace Go.Proofs.Ythmekhhfihjclbd.L9
open Go.RowKit L1 L7
set_option linter.unusedVariables false

theorem own_emptyE (w : World) (base : Nat) (hb : base ≤ w.heap.size) : (w.alloc (.cells #[] 93)).ownsRow base 93 2 (.slice (some ⟨w.heap.size, 0, none⟩) 0 0) 0 (flatE []) :=
  ⟨rfl, .inr ⟨w.heap.size, 0, #[], rfl, hb, blk_new9 w _, Nat.le_refl _, Nat.zero_le _, rfl, rfl⟩⟩
set_option maxRecDepth 100000 in
set_option maxHeartbeats 2000000 in
theorem sdo_2 (S : Nat → Prop) (V : List Value) (gb cg db cd : Nat) (ay : Option Addr) (cy : Nat) (ac : Option Addr) (cc : Nat) (r : Rm) (w : World) (hI : Inv r) (hW : RW w S V (.slice (some ⟨gb, 0, none⟩) r.G.length cg) (.slice (some ⟨db, 0, none⟩) r.dn.length cd) (.slice ay r.sy.length cy) (.slice ac r.ce.length cc) r) (hS : ∀ q, S q → q < w.heap.size) (nd : Int) (t : ByteArray) (ht : t.size = 0) (h0 : 0 ≤ nd) (h1 : nd < (r.G.length : Int)) (o : Option Rm) (ho : o = if nd ≠ r.ld ∧ r.down nd = false ∧ r.down r.ld = false then some { r with G := r.G.set nd.toNat (ftc (gg r.G nd) r.lead) } else none) :
    Calls Try.prog 80 #[rpV (some ⟨gb, 0, none⟩) r.G.length cg (some ⟨db, 0, none⟩) r.dn.length cd r.ld r.ep ay r.sy.length cy ac r.ce.length cc, .agg #[.int .i64 2, .int .i64 nd, .string t]] w fun e w' => SDo S w (o.getD r) o.isSome e w' := by
  obtain rfl := empty_of ht
  have hnode := hI.node
  have hdn := hI.good.down
  have hn1 := hI.good.logs.1
  have hzz := rpz_of hI
  obtain ⟨i, rfl⟩ : ∃ i : Nat, nd = (i : Int) := ⟨nd.toNat, by omega⟩
  obtain ⟨j, hj⟩ : ∃ j : Nat, r.ld = (j : Int) := ⟨r.ld.toNat, by omega⟩
  obtain ⟨n, hn⟩ : ∃ n, n = r.G.length := ⟨_, rfl⟩
  obtain ⟨ny, hny⟩ : ∃ ny, ny = r.sy.length := ⟨_, rfl⟩
  obtain ⟨nc, hnc⟩ : ∃ nc, nc = r.ce.length := ⟨_, rfl⟩
  obtain ⟨E, hE⟩ : ∃ E, E = r.ep := ⟨_, rfl⟩
  have hin : i < n := by omega
  have hjn : j < n := by omega
  obtain ⟨hsz3, X0, X1, X2, BX0⟩ := alloc3 w (Obj.cells #[.slice (some ⟨gb, 0, none⟩) n cg, .slice (some ⟨db, 0, none⟩) n cd, .int .i64 (j : Int), .int .i64 E, .slice ay ny cy, .slice ac nc cc] 32) (Obj.cells #[.int .i64 2, .int .i64 (i : Int), .string ByteArray.empty] 50) zR
  obtain ⟨w3, hw3⟩ : ∃ w3, w3 = ((w.alloc (Obj.cells #[.slice (some ⟨gb, 0, none⟩) n cg, .slice (some ⟨db, 0, none⟩) n cd, .int .i64 (j : Int), .int .i64 E, .slice ay ny cy, .slice ac nc cc] 32)).alloc (Obj.cells #[.int .i64 2, .int .i64 (i : Int), .string ByteArray.empty] 50)).alloc zR := ⟨_, rfl⟩
  rw [← hw3] at hsz3 X0 X1 X2 BX0
  have HW3 := hide hw3
  clear hw3
  have s0 : w3.cell? ⟨w.heap.size + 1, 0, none⟩ = some (.int .i64 2) := by simp [World.cell?, X1]
  have s1 : w3.cell? ⟨w.heap.size + 1, 1, none⟩ = some (.int .i64 (i : Int)) := by simp [World.cell?, X1]
  have s2 : w3.cell? ⟨w.heap.size + 1, 2, none⟩ = some (.string ByteArray.empty) := by simp [World.cell?, X1]
  obtain ⟨g0, g1, g2, g3, g4, g5⟩ := blk6 X0
  have hWx := hW.below BX0
  have hRB : RB w3 (fun q => S q ∨ q = w.heap.size) w.heap.size r := ⟨V, _, _, _, _, by rw [X0, hdn, ← hn, ← hny, ← hnc, ← hE, hj], hWx.mono (fun q hq => .inl hq), .inr rfl⟩
  have HWX := hide (hWx.mono (S' := fun q => S q ∨ q = w.heap.size) (fun q hq => .inl hq))
  have HBX : Hid (w3.heap[w.heap.size]? = some (rbO (.slice (some ⟨gb, 0, none⟩) r.G.length cg) (.slice (some ⟨db, 0, none⟩) r.dn.length cd) r.ld r.ep (.slice ay r.sy.length cy) (.slice ac r.ce.length cc))) := hide (by rw [X0, hdn, ← hn, ← hny, ← hnc, ← hE, hj])
  have hS3 : ∀ q, (S q ∨ q = w.heap.size) → q < w3.heap.size := fun q hq => by
    rcases hq with hq | hq
    · have := hS q hq; omega
    · omega
  have OUT := hide (fun R w5 (hD : Done (fun q => S q ∨ q = w.heap.size) w3 w.heap.size R w5) (hIR : Inv R) => sdo_out hS BX0 ⟨Nat.le_refl _, by omega⟩ ⟨by omega, by omega⟩ X2 hD hIR)
  have ci := hWx.downAt i (by omega)
  have cj := hWx.downAt j (by omega)
  obtain ⟨x, hx⟩ : ∃ x, x = r.dn.getD i false := ⟨_, rfl⟩
  have HX : Hid (r.down (i : Int) = x) := hide hx.symm
  rw [← hx] at ci
  obtain ⟨y, hy⟩ : ∃ y, y = r.dn.getD j false := ⟨_, rfl⟩
  have HY : Hid (r.down r.ld = y) := hide (by rw [hj]; exact hy.symm)
  rw [← hy] at cj
  obtain ⟨bi, hbi⟩ : ∃ bi : Bool, bi = true ↔ (i : Int) ∈ r.sy := ⟨decide ((i : Int) ∈ r.sy), by simp⟩
  have HBI := hide hbi
  have HLD := hide hj
  have HEP := hide hE
  have HI := hide hI
  have HRB := hide hRB
  have HO := hide ho
  have he0 : 1 ≤ E := by rw [hE]; exact hI.good.e0
  have he1 : E ≤ 1000 := by rw [hE]; exact hI.good.e1
  have hy6 := hzz.y2
  rw [← hny] at hy6
  have CI := hide (L4.l1Has_any ay r.sy ny cy (i : Int) w3 hny.symm hWx.rps.1.y hy6 bi hbi)
  have fz : ∀ c, w3.frozen? ⟨w.heap.size, c, none⟩ = false := fun c => frz X0 c
  have fd : ∀ c, w3.frozen? ⟨db, c, none⟩ = false := fun c => own_frz hWx.d c
  have fg : ∀ c, w3.frozen? ⟨gb, c, none⟩ = false := fun c => own_frz hWx.g c
  obtain ⟨z0, z1, z2, z3, z4, z5⟩ := blk6 X2
  have zf : ∀ c, w3.frozen? ⟨w.heap.size + 2, c, none⟩ = false := fun c => frz X2 c
  have hiI : (i : Int) < (n : Int) := by omega
  have hi0 : (0 : Int) ≤ (i : Int) := by omega
  have hi0' : ¬ (i : Int) < 0 := by omega
  have hiI' : ¬ (n : Int) ≤ (i : Int) := by omega
  have hjI : (j : Int) < (n : Int) := by omega
  have hj0 : (0 : Int) ≤ (j : Int) := by omega
  have HB0 := hide BX0
  have HNN := hide hn
  have hdb : db < w3.heap.size := blk_lt9 ci
  have hgb : gb < w3.heap.size := by obtain ⟨_, _, _, hc, _⟩ := hWx.logAt i (by omega); exact blk_lt9 hc
  have hp0 : w.heap.size < w3.heap.size := by omega
  have hp2 : w.heap.size + 2 < w3.heap.size := by omega
  rw [hdn, ← hn, ← hny, ← hnc, ← hE, hj]
  have SAME := hide (fun w5 (h5 : Below w.heap.size w w5) v0 v1 v2 v3 v4 v5 => sdo_same (z := w.heap.size + 2) hW hS h5 (by omega) false v0 v1 v2 v3 v4 v5)
  simp only [hdn, ← hn, ← hny, ← hnc, ← hE, hj] at SAME

  obtain ⟨aI, kI, eI, lI, sI⟩ := hWx.logAt i (by omega)
  obtain ⟨aJ, kJ, eJ, lJ, sJ⟩ := hWx.logAt j (by omega)
  have gI := hI.good.logs.2 i (by omega)
  have gJ := hI.good.logs.2 j (by omega)
  have oI := hWx.l i (by omega)
  rw [eI] at oI
  have capI := own_capE oI
  have cnI : aI = none → kI = 0 := fun e => by
    subst e
    rcases oI.2 with ⟨hv, h0⟩ | ⟨g, cap, cur, hv, _⟩
    · obtain ⟨_, _, e3⟩ := Value.slice.inj hv
      exact e3
    · cases hv
  obtain ⟨L, hL⟩ : ∃ L, L = r.G.getD i [] := ⟨_, rfl⟩
  obtain ⟨M, hM⟩ : ∃ M, M = r.G.getD j [] := ⟨_, rfl⟩
  have HL := hide hL
  have HM := hide hM
  rw [← hL] at lI sI gI capI
  rw [← hM] at lJ sJ gJ
  obtain ⟨p, hp⟩ : ∃ p, p = L.length := ⟨_, rfl⟩
  obtain ⟨q, hq⟩ : ∃ q, q = M.length := ⟨_, rfl⟩
  rw [← hp] at lI capI
  rw [← hq] at lJ
  have gI1 := gI.1
  have gJ1 := gJ.1
  rw [← hp] at gI1
  rw [← hq] at gJ1
  have hbd := find_bd (l := L) gJ.mono
  obtain ⟨P, hP⟩ : ∃ P : Nat, (find L (sts M) M.length).1 = (P : Int) := ⟨(find L (sts M) M.length).1.toNat, by omega⟩
  have hPn : P ≤ p := by omega
  have hPq : P ≤ q := by omega
  have hF : ftc L M = L.take P ++ (if (P : Int) < (q : Int) then [M.getD P eE] else []) := by unfold ftc; rw [hP, Int.toNat_natCast, ← hq]
  have HF := hide hF
  obtain ⟨d1, S1⟩ := slice_to aI p kI P hPn capI cnI
  have CS := fun wx (hb : Below w3.heap.size w3 wx) => l7Starts_any aJ M q kJ wx hq.symm (sJ.below hb) (by omega)
  have hsl := sts_le M
  have CF := fun b c wx (hb : Below w3.heap.size w3 wx) hs2 => l7Find_any aI b L (sts M) p kI _ c (M.length : Int) wx hp.symm (sI.below hb) (by omega) rfl hs2 (by omega) (P : Int) (find L (sts M) M.length).2 (by rw [← hP])
  obtain ⟨Q, hQ⟩ : ∃ Q, Q = (find L (sts M) M.length).2 := ⟨_, rfl⟩
  simp only [← hQ] at CF
  simp only [← hq] at CF
  obtain ⟨ST, hST⟩ : ∃ ST, ST = sts M := ⟨_, rfl⟩
  simp only [RetS, ← hST] at CS
  simp only [← hST] at CF
  obtain ⟨sn, hsn⟩ : ∃ sn, sn = ST.length := ⟨_, rfl⟩
  simp only [← hsn] at CS CF
  have HCS := hide CS
  have HCF := hide CF
  have HTL : Hid ((L.take P).length = P) := by show (L.take P).length = P; simp; omega
  have HSI := hide sI
  have HSJ := hide sJ
  have HQL := hide hq
  have HEI := hide eI
  have HPI := hide hp
  clear hL hM hp hq gI gJ oI capI cnI hbd hP hF CS CF hsl hQ hST hsn sI sJ eI eJ hx hy hbi hj hE hny hnc hn ho hI hW hWx hRB hzz hdn hn1 hnode X0 X1 X2 hy6 BX0 ht
  go_enter Try.func80, Try.ntmps80
  go_upto_region 1 with fail
  rw [← HW3.out]
  go_wp2_with fail
  refine CI.out.mono ?_
  rintro e w4 ⟨rfl, hb4⟩
  replace g0 := (hb4.cell (blk_lt9 g0)).trans g0
  replace g1 := (hb4.cell (blk_lt9 g1)).trans g1
  replace g2 := (hb4.cell (blk_lt9 g2)).trans g2
  replace g3 := (hb4.cell (blk_lt9 g3)).trans g3
  replace g4 := (hb4.cell (blk_lt9 g4)).trans g4
  replace g5 := (hb4.cell (blk_lt9 g5)).trans g5
  replace s0 := (hb4.cell (blk_lt9 s0)).trans s0
  replace s1 := (hb4.cell (blk_lt9 s1)).trans s1
  replace s2 := (hb4.cell (blk_lt9 s2)).trans s2
  replace ci := (hb4.cell (blk_lt9 ci)).trans ci
  replace cj := (hb4.cell (blk_lt9 cj)).trans cj
  replace z0 := (hb4.cell (blk_lt9 z0)).trans z0
  replace z1 := (hb4.cell (blk_lt9 z1)).trans z1
  replace z2 := (hb4.cell (blk_lt9 z2)).trans z2
  replace z3 := (hb4.cell (blk_lt9 z3)).trans z3
  replace z4 := (hb4.cell (blk_lt9 z4)).trans z4
  replace z5 := (hb4.cell (blk_lt9 z5)).trans z5
  replace fz : ∀ c, w4.frozen? ⟨w.heap.size, c, none⟩ = false := fun c => (World.frozen?_of_block (a := ⟨w.heap.size, c, none⟩) (hb4.block _ hp0)).trans (fz c)
  replace fd : ∀ c, w4.frozen? ⟨db, c, none⟩ = false := fun c => (World.frozen?_of_block (a := ⟨db, c, none⟩) (hb4.block _ hdb)).trans (fd c)
  replace fg : ∀ c, w4.frozen? ⟨gb, c, none⟩ = false := fun c => (World.frozen?_of_block (a := ⟨gb, c, none⟩) (hb4.block _ hgb)).trans (fg c)
  replace zf : ∀ c, w4.frozen? ⟨w.heap.size + 2, c, none⟩ = false := fun c => (World.frozen?_of_block (a := ⟨w.heap.size + 2, c, none⟩) (hb4.block _ hp2)).trans (zf c)
  have HB4 := hide hb4
  have HBW := hide (HB0.out.trans (hb4.mono HB0.out.size))
  clear hb4 CI
  by_cases hij : i = j
  · subst hij
    have hoo := HO.out
    rw [if_neg (fun h => h.1 HLD.out.symm)] at hoo
    subst hoo
    go_wp2
    refine bodyPost_ret (v := .tuple #[rpV (some ⟨gb, 0, none⟩) n cg (some ⟨db, 0, none⟩) n cd (i : Int) E ay ny cy ac nc cc, .bool false]) (by simp [results, Try.f80, go_sem, z0, z1, z2, z3, z4, z5]) rfl ?_
    exact SAME.out _ (HBW.out) _ _ _ _ _ _

  · have hij2 : ((i : Int) != (j : Int)) = true := by simp; omega
    cases y with
    | true =>
      have hoo := HO.out
      rw [if_neg (fun h => by have h2 := h.2.2; rw [HY.out] at h2; cases h2)] at hoo
      subst hoo
      go_wp2
      refine bodyPost_ret (v := .tuple #[rpV (some ⟨gb, 0, none⟩) n cg (some ⟨db, 0, none⟩) n cd (j : Int) E ay ny cy ac nc cc, .bool false]) (by simp [results, Try.f80, go_sem, z0, z1, z2, z3, z4, z5]) rfl ?_
      exact SAME.out _ (HBW.out) _ _ _ _ _ _

    | false =>
      cases x with
      | true =>
        have hoo := HO.out
        rw [if_neg (fun h => by have h2 := h.2.1; rw [HX.out] at h2; cases h2)] at hoo
        subst hoo
        go_wp2
        refine bodyPost_ret (v := .tuple #[rpV (some ⟨gb, 0, none⟩) n cg (some ⟨db, 0, none⟩) n cd (j : Int) E ay ny cy ac nc cc, .bool false]) (by simp [results, Try.f80, go_sem, z0, z1, z2, z3, z4, z5]) rfl ?_
        exact SAME.out _ (HBW.out) _ _ _ _ _ _

      | false =>
        replace lI := (HB4.out.cell (blk_lt9 lI)).trans lI
        replace lJ := (HB4.out.cell (blk_lt9 lJ)).trans lJ
        go_upto_region 15 with fail
        refine wp_region_held_drew (S := fun wx => wx.cell? ⟨w.heap.size, 0, none⟩ = some (.slice (some ⟨gb, 0, none⟩) n cg) ∧ wx.cell? ⟨gb, i, none⟩ = some (.slice aI p kI)) (by kernel_rfl) ⟨g0, lI⟩ (fun hHeld => ?_)
        refine wpAnyH_take (i := 0) (v := ?v1) rfl (by kernel_rfl) (by kernel_rfl) (by kernel_rfl) (fun _ _ _ h => h) (Or.inl ⟨by rfl, ?y1⟩) (by assumption) ?r1
        case y1 => (intro w hSw; (try dsimp only at hSw); go_simp; try (with_reducible rfl))
        simp only [List.getElem_toArray, List.getElem_cons_zero, Act.put, List.setIfInBounds_toArray, List.set_cons_zero, List.set_cons_succ]
        refine wpAnyH_take (i := 1) (v := ?v2) rfl (by kernel_rfl) (by kernel_rfl) (by kernel_rfl) (fun _ _ _ h => h) (Or.inl ⟨by rfl, ?y2⟩) (by assumption) ?r2
        case y2 => (intro w hSw; (try dsimp only at hSw); go_simp; try (with_reducible rfl))
        simp only [List.getElem_toArray, List.getElem_cons_succ, List.getElem_cons_zero, Act.put, List.setIfInBounds_toArray, List.set_cons_zero, List.set_cons_succ]
        refine wpAnyH_take (i := 2) (v := ?v3) rfl (by kernel_rfl) (by kernel_rfl) (by kernel_rfl) (fun _ _ _ h => h) (Or.inl ⟨by rfl, ?y3⟩) (by assumption) ?r3
        case y3 => (intro w hSw; (try dsimp only at hSw); go_simp; try (with_reducible rfl))
        simp only [List.getElem_toArray, List.getElem_cons_succ, List.getElem_cons_zero, Act.put, List.setIfInBounds_toArray, List.set_cons_zero, List.set_cons_succ]
        refine wpAnyH_take (i := 3) (v := ?v4) rfl (by kernel_rfl) (by kernel_rfl) (by kernel_rfl) (fun _ _ _ h => h) (Or.inl ⟨by rfl, ?y4⟩) (by assumption) ?r4
        case y4 => (intro w hSw; (try dsimp only at hSw); go_simp; try (with_reducible rfl))
        simp only [List.getElem_toArray, List.getElem_cons_succ, List.getElem_cons_zero, Act.put, List.setIfInBounds_toArray, List.set_cons_zero, List.set_cons_succ]
        refine wpAnyH_take (i := 4) (v := ?v5) rfl (by kernel_rfl) (by kernel_rfl) (by kernel_rfl) (fun _ _ _ h => h) (Or.inl ⟨by rfl, ?y5⟩) (by assumption) ?r5
        case y5 => (intro w hSw; (try dsimp only at hSw); go_simp; try (with_reducible rfl))
        simp only [List.getElem_toArray, List.getElem_cons_succ, List.getElem_cons_zero, Act.put, List.setIfInBounds_toArray, List.set_cons_zero, List.set_cons_succ]
        refine wpAnyH_take (i := 5) (v := ?v6) rfl (by kernel_rfl) (by kernel_rfl) (by kernel_rfl) (fun _ _ _ h => h) (Or.inl ⟨by rfl, ?y6⟩) (by assumption) ?r6
        case y6 => (intro w hSw; (try dsimp only at hSw); go_simp; try (with_reducible rfl))
        simp only [List.getElem_toArray, List.getElem_cons_succ, List.getElem_cons_zero, Act.put, List.setIfInBounds_toArray, List.set_cons_zero, List.set_cons_succ]
        refine wpAnyH_take (i := 7) (v := ?v7) rfl (by kernel_rfl) (by kernel_rfl) (by kernel_rfl) (fun _ _ _ h => h) (Or.inl ⟨by rfl, ?y7⟩) (by assumption) ?r7
        case y7 => (intro w hSw; (try dsimp only at hSw); go_simp; try (with_reducible rfl))
        simp only [List.getElem_toArray, List.getElem_cons_succ, List.getElem_cons_zero, Act.put, List.setIfInBounds_toArray, List.set_cons_zero, List.set_cons_succ]
        refine wpAnyH_take (i := 8) (v := ?v8) rfl (by kernel_rfl) (by kernel_rfl) (by kernel_rfl) (fun _ _ _ h => h) (Or.inl ⟨by rfl, ?y8⟩) (by assumption) ?r8
        case y8 => (intro w hSw; (try dsimp only at hSw); go_simp; try (with_reducible rfl))
        simp only [List.getElem_toArray, List.getElem_cons_succ, List.getElem_cons_zero, Act.put, List.setIfInBounds_toArray, List.set_cons_zero, List.set_cons_succ]
        refine wpAnyH_ready (rs := [6]) (by kernel_rfl) (by simp) ?_
        refine AllReadyH.cons rfl (fun K hK => ?_) AllReadyH.nil
        simp only [List.getElem_toArray, List.getElem_cons_succ, List.getElem_cons_zero]
        go_simp
        go_at_call 94
        refine (HCS.out _ (HB4.out.drew)).mono ?_
        rintro e w5a ⟨v1, rfl, ho1, hq1⟩
        obtain ⟨sa, scap, rfl, hs1, _⟩ := own_formS ho1
        have hb5 := (HB4.out.drew).trans (hq1.mono (HB4.out.drew).size)
        dsimp only
        refine hK.out _ _ ?_ (fun hHeld => ?_)
        · exact ⟨(hq1.cell (blk_lt9 hHeld.1)).trans hHeld.1, (hq1.cell (blk_lt9 hHeld.2)).trans hHeld.2⟩
        clear hK K
        try simp only [Act.put, List.setIfInBounds_toArray, List.set_cons_zero, List.set_cons_succ]
        refine wpAnyH_ready (rs := [9]) (by kernel_rfl) (by simp) ?_
        refine AllReadyH.cons rfl (fun K hK => ?_) AllReadyH.nil
        simp only [List.getElem_toArray, List.getElem_cons_succ, List.getElem_cons_zero]
        go_simp
        go_at_call 93
        refine (HCF.out _ _ _ hb5 hs1).mono ?_
        rintro e w5b ⟨rfl, hq2⟩
        have hb6 := hb5.trans (hq2.mono hb5.size)
        dsimp only
        refine hK.out _ _ ?_ (fun hHeld => ?_)
        · exact ⟨(hq2.cell (blk_lt9 hHeld.1)).trans hHeld.1, (hq2.cell (blk_lt9 hHeld.2)).trans hHeld.2⟩
        clear hK K
        try simp only [Act.put, List.setIfInBounds_toArray, List.set_cons_zero, List.set_cons_succ]
        refine wpAnyH_take (i := 10) (v := ?v9) rfl (by kernel_rfl) (by kernel_rfl) (by kernel_rfl) (fun _ _ _ h => h) (Or.inl ⟨by rfl, ?y9⟩) (by assumption) ?r9
        case y9 => (intro w hSw; (try dsimp only at hSw); go_simp; try (with_reducible rfl))
        simp only [List.getElem_toArray, List.getElem_cons_succ, List.getElem_cons_zero, Act.put, List.setIfInBounds_toArray, List.set_cons_zero, List.set_cons_succ]
        refine wpAnyH_take (i := 11) (v := ?v10) rfl (by kernel_rfl) (by kernel_rfl) (by kernel_rfl) (fun _ _ _ h => h) (Or.inl ⟨by rfl, ?y10⟩) (by assumption) ?r10
        case y10 => (intro w hSw; (try dsimp only at hSw); go_simp; try (with_reducible rfl))
        simp only [List.getElem_toArray, List.getElem_cons_succ, List.getElem_cons_zero, Act.put, List.setIfInBounds_toArray, List.set_cons_zero, List.set_cons_succ]
        refine wpAnyH_take (i := 12) (v := ?v11) rfl (by kernel_rfl) (by kernel_rfl) (by kernel_rfl) (fun _ _ _ h => h) (Or.inl ⟨by rfl, ?y11⟩) (by assumption) ?r11
        case y11 => (intro w hSw; (try dsimp only at hSw); go_simp; try (with_reducible rfl))
        simp only [List.getElem_toArray, List.getElem_cons_succ, List.getElem_cons_zero, Act.put, List.setIfInBounds_toArray, List.set_cons_zero, List.set_cons_succ]
        refine wpAnyH_take (i := 13) (v := ?v12) rfl (by kernel_rfl) (by kernel_rfl) (by kernel_rfl) (fun _ _ _ h => h) (Or.inl ⟨by rfl, ?y12⟩) (by assumption) ?r12
        case y12 => (intro w hSw; (try dsimp only at hSw); go_simp; try (with_reducible rfl))
        simp only [List.getElem_toArray, List.getElem_cons_succ, List.getElem_cons_zero, Act.put, List.setIfInBounds_toArray, List.set_cons_zero, List.set_cons_succ]
        refine wpAnyH_take (i := 14) (v := ?v13) rfl (by kernel_rfl) (by kernel_rfl) (by kernel_rfl) (fun _ _ _ h => h) (Or.inl ⟨by rfl, ?y13⟩) (by assumption) ?r13
        case y13 => (intro w hSw; (try dsimp only at hSw); go_simp; try (with_reducible rfl))
        simp only [List.getElem_toArray, List.getElem_cons_succ, List.getElem_cons_zero, Act.put, List.setIfInBounds_toArray, List.set_cons_zero, List.set_cons_succ]
        refine wpAnyH_done (by kernel_rfl) ?_ _

        have g0' := hHeld.1
        have lI' := hHeld.2
        have s0' := ((hb6.cell (p := ⟨w.heap.size + 1, 0, none⟩) (by show w.heap.size + 1 < _; omega)))
        have HB6 := hide hb6
        have HSI6 := hide (HSI.out.below hb6)
        have HSJ6 := hide (HSJ.out.below hb6)
        have hz6 := hb6.size
        have fg6 : ∀ c, w5b.frozen? ⟨gb, c, none⟩ = false := fun c => own_frz (HWX.out.below hb6).g c
        clear hHeld hb5 hb6 hq1 hq2 hs1 ho1 HCS HCF s0' g0 g1 g2 g3 g4 g5 lI z0 z1 z2 z3 z4 z5 fz fd fg zf ci cj s0 s1 s2
        have a0 : ∀ ob, (w5b.alloc ob).cell? ⟨w.heap.size, 0, none⟩ = some (.slice (some ⟨gb, 0, none⟩) n cg) := fun ob => Go.Lib.cell?_alloc_some ob g0'
        have aI1 : ∀ ob, (w5b.alloc ob).cell? ⟨gb, i, none⟩ = some (.slice aI p kI) := fun ob => Go.Lib.cell?_alloc_some ob lI'
        have HWB := hide (HWX.out.below HB6.out)
        have hFX : ftc (gg r.G (i : Int)) r.lead = L.take P ++ (if (P : Int) < (q : Int) then [M.getD P eE] else []) := by
          show ftc (r.G.getD i []) (r.G.getD r.ld.toNat []) = _
          rw [HLD.out, Int.toNat_natCast, ← HL.out, ← HM.out]
          exact HF.out
        have HFX := hide hFX
        clear hFX
        go_wp2_with (first
          | (at_builtin; refine wpList_append_ent rfl _ _ rfl w5b.heap.size _ _ 0 0 P d1 [] (L.take P) rfl HTL.out (by omega) (by omega) rfl (own_emptyE _ _ (Nat.le_refl _)) rfl (slE_take (HSI6.out.below ((Below.refl _ _).alloc (Nat.le_refl _) _)) P) (by simp) ?_)
          | go_in)
        intro a5 c5 w7 ho7 hg7
        have hb7 : Below w5b.heap.size w5b w7 := ((Below.refl _ _).alloc (Nat.le_refl _) _).grown hg7 (by simp) (fun g hg => by cases hg; exact Nat.le_refl _)
        have HO7 : Hid (w7.ownsRow w5b.heap.size 93 2 (.slice a5 P c5) P (flatE (L.take P))) := by
          show World.ownsRow _ _ _ _ _ _ _
          simpa using ho7
        have g0'' := (hb7.cell (blk_lt9 g0')).trans g0'
        have lI'' := (hb7.cell (blk_lt9 lI')).trans lI'
        have hz7 := hb7.size
        have HB7 := hide hb7
        have fg7 : ∀ c, w7.frozen? ⟨gb, c, none⟩ = false := fun c => own_frz (HWB.out.below hb7).g c
        clear ho7 hg7 hb7 a0 aI1 g0' lI' fg6
        by_cases hlt : P < q
        · have hltI : (P : Int) < (q : Int) := by omega
          have hP0 : (0 : Int) ≤ (P : Int) := by omega
          have hF' := HFX.out
          rw [if_pos hltI] at hF'
          obtain ⟨bb, bo, rfl, h1, h2⟩ := HSJ6.out P (by rw [← HQL.out]; exact hlt)
          have h1' := (HB7.out.cell (p := ⟨bb, bo + P * 2, none⟩) (blk_lt9 h1)).trans h1
          have h2' := (HB7.out.cell (p := ⟨bb, bo + P * 2 + 1, none⟩) (blk_lt9 h2)).trans h2
          obtain ⟨xx, hxx⟩ : ∃ x, x = M.getD P eE := ⟨_, rfl⟩
          rw [← hxx] at h1' h2' hF'
          have HF2 := hide hF'
          obtain ⟨i0, hi, hz0, hz1, hz2⟩ := info_parts info_ent
          clear h1 h2 hxx hF' HF HFX
          have hoo := HO.out
          rw [if_pos (⟨fun h => hij (by have := HLD.out; omega), HX.out, HY.out⟩)] at hoo
          obtain ⟨R, hR⟩ : ∃ R, R = { r with G := r.G.set i (ftc (gg r.G (i : Int)) r.lead) } := ⟨_, rfl⟩
          have hIR : Inv R := by rw [hR]; exact (HI.out.doStep (kd := 2) (nd := (i : Int)) (t := ByteArray.empty) (by unfold doM; rw [if_neg (by decide), if_pos ⟨rfl, hi0, by have := HNN.out; omega⟩, if_pos rfl, if_pos ⟨fun h => hij (by have := HLD.out; omega), HX.out, HY.out⟩]; rfl))
          go_wp2_with (first
            | (at_builtin; refine wpList_append_own _ rfl _ _ 30 rfl w5b.heap.size 93 i0 (.agg #[.int .i64 0, .string ByteArray.empty]) 2 24 Try.underlying30 hi hz0 hz1 hz2 rfl (by decide) _ _ _ rfl (HO7.out.alloc _) ⟨_, 0, none⟩ 1 1 [.int .i64 xx.1, .string xx.2] rfl rfl (cell_two_newT _ _ _ _) (by intro u hu; simp at hu; rcases hu with rfl | rfl <;> rfl) (by unfold maxLen; omega) (by omega) (by simp; omega) ?_)
            | go_in)
          intro v6 w8 ho8 hg8 hne8
          have hb8 : Below w5b.heap.size w5b w8 := HB7.out.trans (((Below.refl _ _).alloc hz7 _).grown hg8 (by simp; omega) (fun g hg => (HO7.out.lt g hg).1))
          obtain ⟨a6, c6, rfl⟩ : ∃ a6 c6, v6 = .slice a6 (P + 1) c6 := by
            rcases ho8.2 with ⟨hv, h0⟩ | ⟨g, cap, cur, hv, _⟩
            · omega
            · exact ⟨_, cap, hv⟩
          have HO8 : Hid (w8.ownsRow w5b.heap.size 93 2 (.slice a6 (P + 1) c6) (P + 1) (flatE (L.take P ++ [xx]))) := by
            show World.ownsRow _ _ _ _ _ _ _
            rw [flatE_append]
            exact ho8
          have HB8 := hide hb8
          have g08 := (hb8.cell (p := ⟨w.heap.size, 0, none⟩) (by show w.heap.size < _; omega))
          have g0c : w8.cell? ⟨w.heap.size, 0, none⟩ = some (.slice (some ⟨gb, 0, none⟩) n cg) := g08.trans (((HB7.out.cell (p := ⟨w.heap.size, 0, none⟩) (by show w.heap.size < _; omega)).symm).trans g0'')
          have lIc : w8.cell? ⟨gb, i, none⟩ = some (.slice aI p kI) := (hb8.cell (p := ⟨gb, i, none⟩) (by show gb < _; omega)).trans (((HB7.out.cell (p := ⟨gb, i, none⟩) (by show gb < _; omega)).symm).trans lI'')
          have fg8 : ∀ c, w8.frozen? ⟨gb, c, none⟩ = false := fun c => own_frz (HWB.out.below hb8).g c
          clear ho8 hg8 hne8 hb8 g08
          go_upto_region 31 with fail
          have hD := (by rw [HF2.out]; exact done_log (w1 := w5b) HWX.out HBX.out (.inr rfl) hS3 HB6.out gb cg rfl i (by have := HNN.out; omega) (.slice a6 (P + 1) c6) (L.take P ++ [xx]) (by rw [show (L.take P ++ [xx]).length = P + 1 by simp [HTL.out]]; exact own_baseZ HO8.out (Nat.zero_le _)) ⟨HB8.out.os, HB8.out.tape, HB8.out.output, HB8.out.size, fun k hk _ => HB8.out.block k hk⟩ (fun z hz => .inr (own_ge HO8.out z hz)) : Done (fun q => S q ∨ q = w.heap.size) w3 w.heap.size { r with G := r.G.set i (ftc (gg r.G (i : Int)) r.lead) } (w8.setCell ⟨gb, i, none⟩ (.slice a6 (P + 1) c6)))
          obtain ⟨w5, hw5⟩ : ∃ w5, w5 = w8.setCell ⟨gb, i, none⟩ (.slice a6 (P + 1) c6) := ⟨_, rfl⟩
          rw [← hw5] at hD ⊢
          rw [← hR] at hD
          have e0 : o = some R := by rw [hoo, hR]; first | done | rfl
          subst e0
          clear hw5 hoo hR
          obtain ⟨gb', cg', db', cd', ay', cy', ac', cc', hb5, hz5, fin⟩ := OUT.out R w5 hD hIR
          obtain ⟨k0, k1, k2, k3, k4, k5⟩ := blk6 hb5
          obtain ⟨y0, y1, y2, y3, y4, y5⟩ := blk6 hz5
          have yf : ∀ c, w5.frozen? ⟨w.heap.size + 2, c, none⟩ = false := fun c => frz hz5 c
          obtain ⟨n1, hn1⟩ : ∃ x, x = R.G.length := ⟨_, rfl⟩
          obtain ⟨n2, hn2⟩ : ∃ x, x = R.dn.length := ⟨_, rfl⟩
          obtain ⟨n3, hn3⟩ : ∃ x, x = R.sy.length := ⟨_, rfl⟩
          obtain ⟨n4, hn4⟩ : ∃ x, x = R.ce.length := ⟨_, rfl⟩
          obtain ⟨x1, hx1⟩ : ∃ x, x = R.ld := ⟨_, rfl⟩
          obtain ⟨x2, hx2⟩ : ∃ x, x = R.ep := ⟨_, rfl⟩
          have FIN := hide fin
          simp only [← hn1, ← hn2, ← hn3, ← hn4, ← hx1, ← hx2] at FIN k0 k1 k2 k3 k4 k5
          clear hn1 hn2 hn3 hn4 hx1 hx2 hb5 hz5 fin hD hIR
          go_wp2
          refine bodyPost_ret (v := .tuple #[rpV (some ⟨gb', 0, none⟩) n1 cg' (some ⟨db', 0, none⟩) n2 cd' x1 x2 ay' n3 cy' ac' n4 cc', .bool true]) (by simp [results, Try.f80, go_sem, y0, y1, y2, y3, y4, y5]) rfl ?_
          exact FIN.out _ _ _ _ _ _

        · have hltI : ¬ (P : Int) < (q : Int) := by omega
          have hF' := HFX.out
          rw [if_neg hltI, List.append_nil] at hF'
          have HF2 := hide hF'
          clear hF' HF HFX
          have hoo := HO.out
          rw [if_pos (⟨fun h => hij (by have := HLD.out; omega), HX.out, HY.out⟩)] at hoo
          obtain ⟨R, hR⟩ : ∃ R, R = { r with G := r.G.set i (ftc (gg r.G (i : Int)) r.lead) } := ⟨_, rfl⟩
          have hIR : Inv R := by rw [hR]; exact (HI.out.doStep (kd := 2) (nd := (i : Int)) (t := ByteArray.empty) (by unfold doM; rw [if_neg (by decide), if_pos ⟨rfl, hi0, by have := HNN.out; omega⟩, if_pos rfl, if_pos ⟨fun h => hij (by have := HLD.out; omega), HX.out, HY.out⟩]; rfl))
          go_upto_region 31 with fail
          have hD := (by rw [HF2.out]; exact done_log (w1 := w5b) HWX.out HBX.out (.inr rfl) hS3 HB6.out gb cg rfl i (by have := HNN.out; omega) (.slice a5 P c5) (L.take P) (by rw [show (L.take P).length = P by simp [HTL.out]]; exact own_baseZ HO7.out (Nat.zero_le _)) ⟨HB7.out.os, HB7.out.tape, HB7.out.output, HB7.out.size, fun k hk _ => HB7.out.block k hk⟩ (fun z hz => .inr (own_ge HO7.out z hz)) : Done (fun q => S q ∨ q = w.heap.size) w3 w.heap.size { r with G := r.G.set i (ftc (gg r.G (i : Int)) r.lead) } (w7.setCell ⟨gb, i, none⟩ (.slice a5 P c5)))
          obtain ⟨w5, hw5⟩ : ∃ w5, w5 = w7.setCell ⟨gb, i, none⟩ (.slice a5 P c5) := ⟨_, rfl⟩
          rw [← hw5] at hD ⊢
          rw [← hR] at hD
          have e0 : o = some R := by rw [hoo, hR]; first | done | rfl
          subst e0
          clear hw5 hoo hR
          obtain ⟨gb', cg', db', cd', ay', cy', ac', cc', hb5, hz5, fin⟩ := OUT.out R w5 hD hIR
          obtain ⟨k0, k1, k2, k3, k4, k5⟩ := blk6 hb5
          obtain ⟨y0, y1, y2, y3, y4, y5⟩ := blk6 hz5
          have yf : ∀ c, w5.frozen? ⟨w.heap.size + 2, c, none⟩ = false := fun c => frz hz5 c
          obtain ⟨n1, hn1⟩ : ∃ x, x = R.G.length := ⟨_, rfl⟩
          obtain ⟨n2, hn2⟩ : ∃ x, x = R.dn.length := ⟨_, rfl⟩
          obtain ⟨n3, hn3⟩ : ∃ x, x = R.sy.length := ⟨_, rfl⟩
          obtain ⟨n4, hn4⟩ : ∃ x, x = R.ce.length := ⟨_, rfl⟩
          obtain ⟨x1, hx1⟩ : ∃ x, x = R.ld := ⟨_, rfl⟩
          obtain ⟨x2, hx2⟩ : ∃ x, x = R.ep := ⟨_, rfl⟩
          have FIN := hide fin
          simp only [← hn1, ← hn2, ← hn3, ← hn4, ← hx1, ← hx2] at FIN k0 k1 k2 k3 k4 k5
          clear hn1 hn2 hn3 hn4 hx1 hx2 hb5 hz5 fin hD hIR
          go_wp2
          refine bodyPost_ret (v := .tuple #[rpV (some ⟨gb', 0, none⟩) n1 cg' (some ⟨db', 0, none⟩) n2 cd' x1 x2 ay' n3 cy' ac' n4 cc', .bool true]) (by simp [results, Try.f80, go_sem, y0, y1, y2, y3, y4, y5]) rfl ?_
          exact FIN.out _ _ _ _ _ _
end Go.Proofs.Ythmekhhfihjclbd.L9

namespace Go.Proofs.Ythmekhhfihjclbd.L9
open Go.RowKit L1 L7
set_option linter.unusedVariables false

set_option maxRecDepth 100000 in
set_option maxHeartbeats 2000000 in
theorem sdo_3 (S : Nat → Prop) (V : List Value) (gb cg db cd : Nat) (ay : Option Addr) (cy : Nat) (ac : Option Addr) (cc : Nat) (r : Rm) (w : World) (hI : Inv r) (hW : RW w S V (.slice (some ⟨gb, 0, none⟩) r.G.length cg) (.slice (some ⟨db, 0, none⟩) r.dn.length cd) (.slice ay r.sy.length cy) (.slice ac r.ce.length cc) r) (hS : ∀ q, S q → q < w.heap.size) (nd : Int) (t : ByteArray) (ht : t.size = 0) (h0 : 0 ≤ nd) (h1 : nd < (r.G.length : Int)) (o : Option Rm) (ho : o = if nd ≠ r.ld ∧ r.down r.ld = false ∧ nd ∈ r.sy then some { r with sy := L4.those [nd] false r.sy } else none) :
    Calls Try.prog 80 #[rpV (some ⟨gb, 0, none⟩) r.G.length cg (some ⟨db, 0, none⟩) r.dn.length cd r.ld r.ep ay r.sy.length cy ac r.ce.length cc, .agg #[.int .i64 3, .int .i64 nd, .string t]] w fun e w' => SDo S w (o.getD r) o.isSome e w' := by
  obtain rfl := empty_of ht
  have hnode := hI.node
  have hdn := hI.good.down
  have hn1 := hI.good.logs.1
  have hzz := rpz_of hI
  obtain ⟨i, rfl⟩ : ∃ i : Nat, nd = (i : Int) := ⟨nd.toNat, by omega⟩
  obtain ⟨j, hj⟩ : ∃ j : Nat, r.ld = (j : Int) := ⟨r.ld.toNat, by omega⟩
  obtain ⟨n, hn⟩ : ∃ n, n = r.G.length := ⟨_, rfl⟩
  obtain ⟨ny, hny⟩ : ∃ ny, ny = r.sy.length := ⟨_, rfl⟩
  obtain ⟨nc, hnc⟩ : ∃ nc, nc = r.ce.length := ⟨_, rfl⟩
  obtain ⟨E, hE⟩ : ∃ E, E = r.ep := ⟨_, rfl⟩
  have hin : i < n := by omega
  have hjn : j < n := by omega
  obtain ⟨hsz3, X0, X1, X2, BX0⟩ := alloc3 w (Obj.cells #[.slice (some ⟨gb, 0, none⟩) n cg, .slice (some ⟨db, 0, none⟩) n cd, .int .i64 (j : Int), .int .i64 E, .slice ay ny cy, .slice ac nc cc] 32) (Obj.cells #[.int .i64 3, .int .i64 (i : Int), .string ByteArray.empty] 50) zR
  obtain ⟨w3, hw3⟩ : ∃ w3, w3 = ((w.alloc (Obj.cells #[.slice (some ⟨gb, 0, none⟩) n cg, .slice (some ⟨db, 0, none⟩) n cd, .int .i64 (j : Int), .int .i64 E, .slice ay ny cy, .slice ac nc cc] 32)).alloc (Obj.cells #[.int .i64 3, .int .i64 (i : Int), .string ByteArray.empty] 50)).alloc zR := ⟨_, rfl⟩
  rw [← hw3] at hsz3 X0 X1 X2 BX0
  have HW3 := hide hw3
  clear hw3
  have s0 : w3.cell? ⟨w.heap.size + 1, 0, none⟩ = some (.int .i64 3) := by simp [World.cell?, X1]
  have s1 : w3.cell? ⟨w.heap.size + 1, 1, none⟩ = some (.int .i64 (i : Int)) := by simp [World.cell?, X1]
  have s2 : w3.cell? ⟨w.heap.size + 1, 2, none⟩ = some (.string ByteArray.empty) := by simp [World.cell?, X1]
  obtain ⟨g0, g1, g2, g3, g4, g5⟩ := blk6 X0
  have hWx := hW.below BX0
  have hRB : RB w3 (fun q => S q ∨ q = w.heap.size) w.heap.size r := ⟨V, _, _, _, _, by rw [X0, hdn, ← hn, ← hny, ← hnc, ← hE, hj], hWx.mono (fun q hq => .inl hq), .inr rfl⟩
  have HWX := hide (hWx.mono (S' := fun q => S q ∨ q = w.heap.size) (fun q hq => .inl hq))
  have HBX : Hid (w3.heap[w.heap.size]? = some (rbO (.slice (some ⟨gb, 0, none⟩) r.G.length cg) (.slice (some ⟨db, 0, none⟩) r.dn.length cd) r.ld r.ep (.slice ay r.sy.length cy) (.slice ac r.ce.length cc))) := hide (by rw [X0, hdn, ← hn, ← hny, ← hnc, ← hE, hj])
  have hS3 : ∀ q, (S q ∨ q = w.heap.size) → q < w3.heap.size := fun q hq => by
    rcases hq with hq | hq
    · have := hS q hq; omega
    · omega
  have OUT := hide (fun R w5 (hD : Done (fun q => S q ∨ q = w.heap.size) w3 w.heap.size R w5) (hIR : Inv R) => sdo_out hS BX0 ⟨Nat.le_refl _, by omega⟩ ⟨by omega, by omega⟩ X2 hD hIR)
  have ci := hWx.downAt i (by omega)
  have cj := hWx.downAt j (by omega)
  obtain ⟨x, hx⟩ : ∃ x, x = r.dn.getD i false := ⟨_, rfl⟩
  have HX : Hid (r.down (i : Int) = x) := hide hx.symm
  rw [← hx] at ci
  obtain ⟨y, hy⟩ : ∃ y, y = r.dn.getD j false := ⟨_, rfl⟩
  have HY : Hid (r.down r.ld = y) := hide (by rw [hj]; exact hy.symm)
  rw [← hy] at cj
  obtain ⟨bi, hbi⟩ : ∃ bi : Bool, bi = true ↔ (i : Int) ∈ r.sy := ⟨decide ((i : Int) ∈ r.sy), by simp⟩
  have HBI := hide hbi
  have HLD := hide hj
  have HEP := hide hE
  have HI := hide hI
  have HRB := hide hRB
  have HO := hide ho
  have he0 : 1 ≤ E := by rw [hE]; exact hI.good.e0
  have he1 : E ≤ 1000 := by rw [hE]; exact hI.good.e1
  have hy6 := hzz.y2
  rw [← hny] at hy6
  have CI := hide (L4.l1Has_any ay r.sy ny cy (i : Int) w3 hny.symm hWx.rps.1.y hy6 bi hbi)
  have fz : ∀ c, w3.frozen? ⟨w.heap.size, c, none⟩ = false := fun c => frz X0 c
  have fd : ∀ c, w3.frozen? ⟨db, c, none⟩ = false := fun c => own_frz hWx.d c
  have fg : ∀ c, w3.frozen? ⟨gb, c, none⟩ = false := fun c => own_frz hWx.g c
  obtain ⟨z0, z1, z2, z3, z4, z5⟩ := blk6 X2
  have zf : ∀ c, w3.frozen? ⟨w.heap.size + 2, c, none⟩ = false := fun c => frz X2 c
  have hiI : (i : Int) < (n : Int) := by omega
  have hi0 : (0 : Int) ≤ (i : Int) := by omega
  have hi0' : ¬ (i : Int) < 0 := by omega
  have hiI' : ¬ (n : Int) ≤ (i : Int) := by omega
  have hjI : (j : Int) < (n : Int) := by omega
  have hj0 : (0 : Int) ≤ (j : Int) := by omega
  have HB0 := hide BX0
  have HNN := hide hn
  have hdb : db < w3.heap.size := blk_lt9 ci
  have hgb : gb < w3.heap.size := by obtain ⟨_, _, _, hc, _⟩ := hWx.logAt i (by omega); exact blk_lt9 hc
  have hp0 : w.heap.size < w3.heap.size := by omega
  have hp2 : w.heap.size + 2 < w3.heap.size := by omega
  rw [hdn, ← hn, ← hny, ← hnc, ← hE, hj]
  have SAME := hide (fun w5 (h5 : Below w.heap.size w w5) v0 v1 v2 v3 v4 v5 => sdo_same (z := w.heap.size + 2) hW hS h5 (by omega) false v0 v1 v2 v3 v4 v5)
  simp only [hdn, ← hn, ← hny, ← hnc, ← hE, hj] at SAME

  obtain ⟨ys, hys⟩ : ∃ ys, ys = L4.those [(i : Int)] false r.sy := ⟨_, rfl⟩
  obtain ⟨m, hm⟩ : ∃ m, m = ys.length := ⟨_, rfl⟩
  have HYS := hide hys
  have HM := hide hm

  have CW := hide (fun wx wy (hbw : Below w3.heap.size w3 wx) (hwy : Below wx.heap.size wx wy) (hx0 : wy.cell? ⟨wx.heap.size, 0, none⟩ = some (.int .i64 (i : Int))) => (L4.those_false ay r.sy ny cy (some ⟨wx.heap.size, 0, none⟩) [(i : Int)] 1 1 wy hny.symm ((hWx.rps.1.y.below hbw).below hwy) hy6 rfl (one_slC hx0).sl (by omega)).mono (fun e w6 h => show ∃ a5 c5, e = .returned (.slice a5 m c5) ∧ (w6.ownsRow w3.heap.size 3 1 (.slice a5 m c5) m (ys.map (Value.int .i64)) ∧ Below w3.heap.size w3 w6) ∧ w6.cell? ⟨w.heap.size, 4, none⟩ = some (.slice ay ny cy) ∧ w6.frozen? ⟨w.heap.size, 4, none⟩ = false by
    obtain ⟨v, rfl, ho3, hb3⟩ := h
    have hb5 := hbw.trans (hwy.mono hbw.size)
    have hb6 := hb5.trans (hb3.mono hb5.size)
    rw [← hys, ← hm] at ho3
    obtain ⟨a5, c5, rfl⟩ := L4.own_shapeT ho3
    exact ⟨a5, c5, rfl, ⟨own_baseZ ho3 hb5.size, hb6⟩, (hb6.cell (p := ⟨w.heap.size, 4, none⟩) (blk_lt9 g4)).trans g4, frz ((hb6.block w.heap.size (Array.getElem?_eq_some_iff.1 X0).1).trans X0) 4⟩))
  clear hys hm hx hy hbi hj hE hny hnc hn ho hI hW hWx hRB hzz hdn hn1 hnode X0 X1 X2 hy6 BX0 ht
  go_enter Try.func80, Try.ntmps80
  go_upto_region 1 with fail
  rw [← HW3.out]
  go_wp2_with fail
  refine CI.out.mono ?_
  rintro e w4 ⟨rfl, hb4⟩
  replace g0 := (hb4.cell (blk_lt9 g0)).trans g0
  replace g1 := (hb4.cell (blk_lt9 g1)).trans g1
  replace g2 := (hb4.cell (blk_lt9 g2)).trans g2
  replace g3 := (hb4.cell (blk_lt9 g3)).trans g3
  replace g4 := (hb4.cell (blk_lt9 g4)).trans g4
  replace g5 := (hb4.cell (blk_lt9 g5)).trans g5
  replace s0 := (hb4.cell (blk_lt9 s0)).trans s0
  replace s1 := (hb4.cell (blk_lt9 s1)).trans s1
  replace s2 := (hb4.cell (blk_lt9 s2)).trans s2
  replace ci := (hb4.cell (blk_lt9 ci)).trans ci
  replace cj := (hb4.cell (blk_lt9 cj)).trans cj
  replace z0 := (hb4.cell (blk_lt9 z0)).trans z0
  replace z1 := (hb4.cell (blk_lt9 z1)).trans z1
  replace z2 := (hb4.cell (blk_lt9 z2)).trans z2
  replace z3 := (hb4.cell (blk_lt9 z3)).trans z3
  replace z4 := (hb4.cell (blk_lt9 z4)).trans z4
  replace z5 := (hb4.cell (blk_lt9 z5)).trans z5
  replace fz : ∀ c, w4.frozen? ⟨w.heap.size, c, none⟩ = false := fun c => (World.frozen?_of_block (a := ⟨w.heap.size, c, none⟩) (hb4.block _ hp0)).trans (fz c)
  replace fd : ∀ c, w4.frozen? ⟨db, c, none⟩ = false := fun c => (World.frozen?_of_block (a := ⟨db, c, none⟩) (hb4.block _ hdb)).trans (fd c)
  replace fg : ∀ c, w4.frozen? ⟨gb, c, none⟩ = false := fun c => (World.frozen?_of_block (a := ⟨gb, c, none⟩) (hb4.block _ hgb)).trans (fg c)
  replace zf : ∀ c, w4.frozen? ⟨w.heap.size + 2, c, none⟩ = false := fun c => (World.frozen?_of_block (a := ⟨w.heap.size + 2, c, none⟩) (hb4.block _ hp2)).trans (zf c)
  have HB4 := hide hb4
  have HBW := hide (HB0.out.trans (hb4.mono HB0.out.size))
  clear hb4 CI
  by_cases hij : i = j
  · subst hij
    have hoo := HO.out
    rw [if_neg (fun h => h.1 HLD.out.symm)] at hoo
    subst hoo
    go_wp2
    refine bodyPost_ret (v := .tuple #[rpV (some ⟨gb, 0, none⟩) n cg (some ⟨db, 0, none⟩) n cd (i : Int) E ay ny cy ac nc cc, .bool false]) (by simp [results, Try.f80, go_sem, z0, z1, z2, z3, z4, z5]) rfl ?_
    exact SAME.out _ (HBW.out) _ _ _ _ _ _

  · have hij2 : ((i : Int) != (j : Int)) = true := by simp; omega
    cases y with
    | true =>
      have hoo := HO.out
      rw [if_neg (fun h => by have h2 := h.2.1; rw [HY.out] at h2; cases h2)] at hoo
      subst hoo
      go_wp2
      refine bodyPost_ret (v := .tuple #[rpV (some ⟨gb, 0, none⟩) n cg (some ⟨db, 0, none⟩) n cd (j : Int) E ay ny cy ac nc cc, .bool false]) (by simp [results, Try.f80, go_sem, z0, z1, z2, z3, z4, z5]) rfl ?_
      exact SAME.out _ (HBW.out) _ _ _ _ _ _

    | false =>
      cases bi with
      | false =>
        have hoo := HO.out
        rw [if_neg (fun h => by have := HBI.out.2 h.2.2; cases this)] at hoo
        subst hoo
        go_wp2
        refine bodyPost_ret (v := .tuple #[rpV (some ⟨gb, 0, none⟩) n cg (some ⟨db, 0, none⟩) n cd (j : Int) E ay ny cy ac nc cc, .bool false]) (by simp [results, Try.f80, go_sem, z0, z1, z2, z3, z4, z5]) rfl ?_
        exact SAME.out _ (HBW.out) _ _ _ _ _ _

      | true =>
        have hoo := HO.out
        rw [if_pos (⟨fun h => hij (by have := HLD.out; omega), HY.out, HBI.out.1 (by first | rfl | trivial)⟩)] at hoo
        obtain ⟨R, hR⟩ : ∃ R, R = { r with sy := L4.those [(i : Int)] false r.sy } := ⟨_, rfl⟩
        have hIR : Inv R := by rw [hR]; exact (HI.out.doStep (kd := 3) (nd := (i : Int)) (t := ByteArray.empty) (by unfold doM; rw [if_neg (by decide), if_pos ⟨rfl, hi0, by have := HNN.out; omega⟩, if_neg (by decide), if_pos rfl, if_pos ⟨fun h => hij (by have := HLD.out; omega), HY.out, HBI.out.1 (by first | rfl | trivial)⟩]))
        have HHR := hide hR
        go_wp2_with fail
        refine (CW.out w4 _ HB4.out ((Below.refl _ _).alloc (Nat.le_refl _) _) (cell_new9 _ _ _)).mono ?_
        rintro e w6 ⟨a5, c5, rfl, ho6, c4, f4⟩
        go_upto_region 31 with fail
        have hD := (by rw [← HYS.out]; exact done_sync HWX.out HBX.out (.inr rfl) ho6.2 _ ys (by rw [← HM.out]; exact ho6.1) : Done (fun q => S q ∨ q = w.heap.size) w3 w.heap.size { r with sy := L4.those [(i : Int)] false r.sy } (w6.setCell ⟨w.heap.size, 4, none⟩ (.slice a5 m c5)))
        obtain ⟨w5, hw5⟩ : ∃ w5, w5 = w6.setCell ⟨w.heap.size, 4, none⟩ (.slice a5 m c5) := ⟨_, rfl⟩
        rw [← hw5] at hD ⊢
        rw [← hR] at hD
        have e0 : o = some R := by rw [hoo, hR]; first | done | rfl
        subst e0
        clear hw5 hoo hR
        obtain ⟨gb', cg', db', cd', ay', cy', ac', cc', hb5, hz5, fin⟩ := OUT.out R w5 hD hIR
        obtain ⟨k0, k1, k2, k3, k4, k5⟩ := blk6 hb5
        obtain ⟨y0, y1, y2, y3, y4, y5⟩ := blk6 hz5
        have yf : ∀ c, w5.frozen? ⟨w.heap.size + 2, c, none⟩ = false := fun c => frz hz5 c
        obtain ⟨n1, hn1⟩ : ∃ x, x = R.G.length := ⟨_, rfl⟩
        obtain ⟨n2, hn2⟩ : ∃ x, x = R.dn.length := ⟨_, rfl⟩
        obtain ⟨n3, hn3⟩ : ∃ x, x = R.sy.length := ⟨_, rfl⟩
        obtain ⟨n4, hn4⟩ : ∃ x, x = R.ce.length := ⟨_, rfl⟩
        obtain ⟨x1, hx1⟩ : ∃ x, x = R.ld := ⟨_, rfl⟩
        obtain ⟨x2, hx2⟩ : ∃ x, x = R.ep := ⟨_, rfl⟩
        have FIN := hide fin
        simp only [← hn1, ← hn2, ← hn3, ← hn4, ← hx1, ← hx2] at FIN k0 k1 k2 k3 k4 k5
        clear hn1 hn2 hn3 hn4 hx1 hx2 hb5 hz5 fin hD hIR g0 g1 g2 g3 g4 g5 z0 z1 z2 z3 z4 z5
        go_wp2
        refine bodyPost_ret (v := .tuple #[rpV (some ⟨gb', 0, none⟩) n1 cg' (some ⟨db', 0, none⟩) n2 cd' x1 x2 ay' n3 cy' ac' n4 cc', .bool true]) (by simp [results, Try.f80, go_sem, y0, y1, y2, y3, y4, y5]) rfl ?_
        exact FIN.out _ _ _ _ _ _
end Go.Proofs.Ythmekhhfihjclbd.L9

namespace Go.Proofs.Ythmekhhfihjclbd.L4
open Go.RowKit L1
set_option linter.unusedVariables false

set_option maxRecDepth 100000 in
set_option maxHeartbeats 4000000 in
theorem putSomeN (B0 : Nat) (g n cap : Nat) (xs : List Int) (x : Int) (B : Nat) (w : World) (hB : B ≤ w.heap.size) (hn : n ≤ 4000) (hx : xs.length = n) (hnx : x ∉ xs) (ho : w.ownsRow B0 3 1 (.slice (some ⟨g, 0, none⟩) n cap) n (xs.map (Value.int .i64))) :
    Calls Try.prog 97 #[.slice (some ⟨g, 0, none⟩) n cap, .int .i64 x] w fun e w' => ∃ v, e = .returned v ∧ OwnL w' B v (put xs x) ∧ Below w.heap.size w w' := by
  obtain ⟨i1, hi1, hy0, hy1, hy2⟩ := info_parts info_int
  obtain ⟨hcap1, hcap2⟩ : n ≤ cap ∧ cap ≤ maxLen := by
    obtain ⟨g', c', e, h1, h2⟩ := own_some ho (fun e => by cases e)
    cases e
    exact ⟨h1, h2⟩
  unfold maxLen at hcap2
  have hcapI : (cap : Int) ≤ 9223372036854775807 := by omega
  have hgz := (ho.lt g rfl).2
  have HNX := hide hnx
  have HOW := hide ho
  have HXL := hide hx
  clear ho hx hnx
  go_enter Try.func97, Try.ntmps97
  go_wp2
  go_loop [5] (fun kv => ∃ k : Nat, k ≤ n ∧ kv = .int .i64 k ∧ Hid (∀ j, j < k → xs.getD j 0 < x)) (fun kv => n - (intOf kv).toNat)
  case atStart => exact ⟨0, Nat.zero_le _, rfl, fun j hj => absurd hj (Nat.not_lt_zero _)⟩
  case round =>
    obtain ⟨k, hk, rfl, HJ⟩ := hrel
    by_cases hkl : k < n
    · have hklI : (k : Int) < (n : Int) := by omega
      have hc := HOW.out.cellAt k (by omega)
      obtain ⟨y, HY, hy⟩ : ∃ y : Int, Hid (xs.getD k 0 = y) ∧ w.cell? ⟨g, k, none⟩ = some (.int .i64 y) := by
        refine ⟨xs.getD k 0, rfl, hc.trans ?_⟩
        have := HXL.out
        rw [List.getElem?_map, List.getElem?_eq_getElem (by omega)]
        simp [List.getD, List.getElem?_eq_getElem (show k < xs.length by omega)]
      clear hc
      by_cases hyx : y < x
      · go_wp2
        go_round
        case rel =>
          refine ⟨k + 1, by omega, by go_num, ?_⟩
          intro j hj
          by_cases e : j = k
          · subst e; rw [HY.out]; exact hyx
          · exact HJ.out j (by omega)
        case measure => simp [intOf]; omega
      · by_cases hxe : y = x
        · exact absurd (by rw [← hxe, ← HY.out]; exact getD_mem (by rw [HXL.out]; exact hkl)) HNX.out
        · have hxe' : (y == x) = false := by simpa using hxe
          have hput : put xs x = xs.take k ++ x :: xs.drop k := by
            have e := lp_at (n := x) xs k (by rw [HXL.out]; exact hk) HJ.out (fun _ => by rw [HY.out]; exact hyx)
            unfold put
            rw [e, if_neg (fun h => hxe (by rw [← HY.out]; exact h.2))]
          have HP := hide hput
          clear hxe hput
          have hTL : ((xs.take k).map (Value.int .i64)).length = k * 1 := by have := HXL.out; simp; omega
          have hDL : ((xs.drop k).map (Value.int .i64)).length = (n - k) * 1 := by have := HXL.out; simp; omega
          have HTL := hide hTL
          have HDL := hide hDL
          have HTC := hide (int_take HOW.out k)
          have HDC := hide (int_drop HOW.out k)
          have hkc : (k : Int) ≤ (cap : Int) := by omega
          have hkN : (k : Int) ≤ (n : Int) := by omega
          clear hTL hDL
          go_wp2_with (first
            | (at_builtin; refine wpList_append_own _ rfl _ _ 22 rfl w.heap.size 3 i1 (.int .i64 0) 1 8 Try.underlying22 hi1 hy0 hy1 hy2 rfl (by decide) (.slice none 0 0) 0 [] rfl (World.ownsRow_nil _ _ _ _) ⟨g, 0, none⟩ k cap ((xs.take k).map (Value.int .i64)) rfl HTL.out HTC.out (ints_one _) (by unfold maxLen; omega) (by omega) (Nat.le_refl _) ?_)
            | go_in)
          intro v4 w4 hown4 hgrow4 hnil4
          have hb4 : Below w.heap.size w w4 := (Below.refl _ _).grown hgrow4 (Nat.le_refl _) (fun g hg => by cases hg)
          try simp only [List.nil_append, Nat.zero_add] at hown4
          obtain ⟨a4, c4, rfl⟩ := own_shapeT hown4
          have O4 := hide hown4
          have B4 := hide hb4
          have hz4 := hb4.size
          clear hown4 hgrow4 hnil4 hb4
          go_wp2_with (first
            | (at_builtin; refine wpList_append_own _ rfl _ _ 22 rfl w.heap.size 3 i1 (.int .i64 0) 1 8 Try.underlying22 hi1 hy0 hy1 hy2 rfl (by decide) _ _ _ rfl (O4.out.alloc _) ⟨w4.heap.size, 0, none⟩ 1 1 [.int .i64 x] rfl rfl (cell_one_new _ _ _) (by intro u hu; simp at hu; subst hu; rfl) (by unfold maxLen; omega) (by omega) (by simp; omega) ?_)
            | go_in)
          intro v5 w5 hown5 hgrow5 hnil5
          have hb5 : Below w.heap.size w w5 := B4.out.trans (((Below.refl _ _).alloc hz4 _).grown hgrow5 (by simp; omega) (fun g hg => (O4.out.lt g hg).1))
          obtain ⟨g5, c5, rfl, hc5, _⟩ := own_some hown5 (by first | exact hnil5 | (intro e; have := (hnil5.1 e).2; omega))
          have O5 := hide hown5
          have B5 := hide hb5
          have hz5 := hb5.size
          clear hown5 hgrow5 hnil5 hb5
          by_cases hko : k < cap
          · have hkoI : (k : Int) < (cap : Int) := by omega
            go_wp2_with (first
              | (at_builtin; refine wpList_append_own _ rfl _ _ 22 rfl w.heap.size 3 i1 (.int .i64 0) 1 8 Try.underlying22 hi1 hy0 hy1 hy2 rfl (by decide) _ _ _ rfl O5.out ⟨g, k, none⟩ (n - k) (cap - k) ((xs.drop k).map (Value.int .i64)) rfl HDL.out (fun j u h => (B5.out.cell (p := (⟨g, k, none⟩ : Addr).add j) (by have := hgz; unfold Addr.add; split <;> exact this)).trans (HDC.out j u h)) (ints_one _) (by unfold maxLen; omega) (by omega) hz5 ?_)
              | go_in)
            intro v6 w6 hown6 hgrow6 hnil6
            have hb6 : Below w.heap.size w w6 := B5.out.trans ((Below.refl _ _).grown hgrow6 hz5 (fun g hg => (O5.out.lt g hg).1))
            have O6 : Hid (OwnL w6 B v6 (put xs x)) := by
              refine hide ?_; rw [HP.out]; unfold OwnL
              · have e1 : (xs.take k ++ x :: xs.drop k).length = k + 1 + (n - k) := by have := HXL.out; simp; omega
                rw [e1]
                have := own_baseT hown6 hB
                simpa using this
            have B6 := hide hb6
            clear hown6 hgrow6 hnil6 hb6
            go_wp2
            go_ret
            exact ⟨_, rfl, O6.out, B6.out⟩
          · obtain rfl : k = cap := by omega
            have hnk : n = k := by omega
            have O6 : Hid (OwnL w5 B (.slice (some ⟨g5, 0, none⟩) (k + 1) c5) (put xs x)) := by
              refine hide ?_; rw [HP.out, show xs.drop k = [] from List.drop_of_length_le (by have := HXL.out; omega)]; unfold OwnL
              · have e1 : (xs.take k ++ [x]).length = k + 1 := by have := HXL.out; simp; omega
                rw [e1]
                have := own_baseT O5.out hB
                simpa using this
            subst hnk
            have hc5I : ((n : Int) + 1) ≤ (c5 : Int) := by omega
            go_wp2
            try go_simp
            try go_wp2
            go_ret
            exact ⟨_, rfl, O6.out, B5.out⟩
    · have hklI : ¬ (k : Int) < (n : Int) := by omega
      have hput : put xs x = xs.take k ++ x :: xs.drop k := by
        have e := lp_at (n := x) xs k (by rw [HXL.out]; exact hk) HJ.out (fun h => by rw [HXL.out] at h; omega)
        unfold put
        rw [e, if_neg (fun h => by have := h.1; rw [HXL.out] at this; omega)]
      have HP := hide hput
      clear hput
      have hTL : ((xs.take k).map (Value.int .i64)).length = k * 1 := by have := HXL.out; simp; omega
      have hDL : ((xs.drop k).map (Value.int .i64)).length = (n - k) * 1 := by have := HXL.out; simp; omega
      have HTL := hide hTL
      have HDL := hide hDL
      have HTC := hide (int_take HOW.out k)
      have HDC := hide (int_drop HOW.out k)
      have hkc : (k : Int) ≤ (cap : Int) := by omega
      have hkN : (k : Int) ≤ (n : Int) := by omega
      clear hTL hDL
      go_wp2_with (first
        | (at_builtin; refine wpList_append_own _ rfl _ _ 22 rfl w.heap.size 3 i1 (.int .i64 0) 1 8 Try.underlying22 hi1 hy0 hy1 hy2 rfl (by decide) (.slice none 0 0) 0 [] rfl (World.ownsRow_nil _ _ _ _) ⟨g, 0, none⟩ k cap ((xs.take k).map (Value.int .i64)) rfl HTL.out HTC.out (ints_one _) (by unfold maxLen; omega) (by omega) (Nat.le_refl _) ?_)
        | go_in)
      intro v4 w4 hown4 hgrow4 hnil4
      have hb4 : Below w.heap.size w w4 := (Below.refl _ _).grown hgrow4 (Nat.le_refl _) (fun g hg => by cases hg)
      try simp only [List.nil_append, Nat.zero_add] at hown4
      obtain ⟨a4, c4, rfl⟩ := own_shapeT hown4
      have O4 := hide hown4
      have B4 := hide hb4
      have hz4 := hb4.size
      clear hown4 hgrow4 hnil4 hb4
      go_wp2_with (first
        | (at_builtin; refine wpList_append_own _ rfl _ _ 22 rfl w.heap.size 3 i1 (.int .i64 0) 1 8 Try.underlying22 hi1 hy0 hy1 hy2 rfl (by decide) _ _ _ rfl (O4.out.alloc _) ⟨w4.heap.size, 0, none⟩ 1 1 [.int .i64 x] rfl rfl (cell_one_new _ _ _) (by intro u hu; simp at hu; subst hu; rfl) (by unfold maxLen; omega) (by omega) (by simp; omega) ?_)
        | go_in)
      intro v5 w5 hown5 hgrow5 hnil5
      have hb5 : Below w.heap.size w w5 := B4.out.trans (((Below.refl _ _).alloc hz4 _).grown hgrow5 (by simp; omega) (fun g hg => (O4.out.lt g hg).1))
      obtain ⟨g5, c5, rfl, hc5, _⟩ := own_some hown5 (by first | exact hnil5 | (intro e; have := (hnil5.1 e).2; omega))
      have O5 := hide hown5
      have B5 := hide hb5
      have hz5 := hb5.size
      clear hown5 hgrow5 hnil5 hb5
      by_cases hko : k < cap
      · have hkoI : (k : Int) < (cap : Int) := by omega
        go_wp2_with (first
          | (at_builtin; refine wpList_append_own _ rfl _ _ 22 rfl w.heap.size 3 i1 (.int .i64 0) 1 8 Try.underlying22 hi1 hy0 hy1 hy2 rfl (by decide) _ _ _ rfl O5.out ⟨g, k, none⟩ (n - k) (cap - k) ((xs.drop k).map (Value.int .i64)) rfl HDL.out (fun j u h => (B5.out.cell (p := (⟨g, k, none⟩ : Addr).add j) (by have := hgz; unfold Addr.add; split <;> exact this)).trans (HDC.out j u h)) (ints_one _) (by unfold maxLen; omega) (by omega) hz5 ?_)
          | go_in)
        intro v6 w6 hown6 hgrow6 hnil6
        have hb6 : Below w.heap.size w w6 := B5.out.trans ((Below.refl _ _).grown hgrow6 hz5 (fun g hg => (O5.out.lt g hg).1))
        have O6 : Hid (OwnL w6 B v6 (put xs x)) := by
          refine hide ?_; rw [HP.out]; unfold OwnL
          · have e1 : (xs.take k ++ x :: xs.drop k).length = k + 1 + (n - k) := by have := HXL.out; simp; omega
            rw [e1]
            have := own_baseT hown6 hB
            simpa using this
        have B6 := hide hb6
        clear hown6 hgrow6 hnil6 hb6
        go_wp2
        go_ret
        exact ⟨_, rfl, O6.out, B6.out⟩
      · obtain rfl : k = cap := by omega
        have hnk : n = k := by omega
        have O6 : Hid (OwnL w5 B (.slice (some ⟨g5, 0, none⟩) (k + 1) c5) (put xs x)) := by
          refine hide ?_; rw [HP.out, show xs.drop k = [] from List.drop_of_length_le (by have := HXL.out; omega)]; unfold OwnL
          · have e1 : (xs.take k ++ [x]).length = k + 1 := by have := HXL.out; simp; omega
            rw [e1]
            have := own_baseT O5.out hB
            simpa using this
        subst hnk
        have hc5I : ((n : Int) + 1) ≤ (c5 : Int) := by omega
        go_wp2
        try go_simp
        try go_wp2
        go_ret
        exact ⟨_, rfl, O6.out, B5.out⟩
theorem put_new (v : Value) (xs : List Int) (x : Int) (B0 : Nat) (w : World) (hm : xs.length ≤ 4000) (hnx : x ∉ xs) (h : OwnL w B0 v xs) :
    Calls Try.prog 97 #[v, .int .i64 x] w fun e w' => ∃ v', e = .returned v' ∧ OwnL w' w.heap.size v' (put xs x) ∧ Below w.heap.size w w' := by
  rcases h.2 with ⟨hv, h0⟩ | ⟨g, cap, cur, hv, _⟩
  · subst hv
    obtain rfl : xs = [] := List.eq_nil_of_length_eq_zero h0
    exact putNil x w.heap.size w (Nat.le_refl _)
  · subst hv
    exact putSomeN B0 g xs.length cap xs x w.heap.size w (Nat.le_refl _) hm rfl hnx h
end Go.Proofs.Ythmekhhfihjclbd.L4

namespace Go.Proofs.Ythmekhhfihjclbd.L7
open Go.RowKit L1
set_option linter.unusedVariables false

set_option maxRecDepth 100000 in
set_option maxHeartbeats 2000000 in
theorem l7Part_any (a b : Option Addr) (l m : List En) (n c1 k c2 : Nat) (w : World) (hn : l.length = n) (hk : m.length = k) (hs : SlE w a l) (ht : SlE w b m) (hn2 : n ≤ 1048576) (hk2 : k ≤ 1048576) :
    Calls Try.prog 75 #[.slice a n c1, .slice b k c2] w fun e w' => e = .returned (.int .i64 (prt l m : Int)) ∧ Below w.heap.size w w' := by
  have HS := hide hs
  have HN := hide hn
  have HT := hide ht
  have HK := hide hk
  have HP : Hid (∀ i, (∀ j, j < i → l.getD j eE = m.getD j eE) → i ≤ n → i ≤ k → (i = n ∨ i = k ∨ l.getD i eE ≠ m.getD i eE) → prt l m = i) := fun i h1 h2 h3 h4 => prt_eq i l m h1 (by rw [HN.out]; exact h2) (by rw [HK.out]; exact h3) (by rw [HN.out, HK.out]; exact h4)
  clear hs hn ht hk
  go_enter Try.func75, Try.ntmps75
  go_wp2
  go_loopw [5] (fun i wr => ∃ j : Nat, j ≤ n ∧ j ≤ k ∧ i = .int .i64 j ∧ Hid (∀ q, q < j → l.getD q eE = m.getD q eE) ∧ Below w.heap.size w wr) (fun i _ => n - (intOf i).toNat)
  case atStart => exact ⟨0, Nat.zero_le _, Nat.zero_le _, rfl, fun j hj => absurd hj (Nat.not_lt_zero _), Below.refl _ _⟩
  case round =>
    obtain ⟨j, hjn, hjk, rfl, HJ, hbel⟩ := hrel
    by_cases h1 : j < n
    · have h1I : (j : Int) < (n : Int) := by omega
      by_cases h2 : j < k
      · have h2I : (j : Int) < (k : Int) := by omega
        obtain ⟨b1, o1, rfl, p1, p2⟩ := HS.out j (by rw [HN.out]; exact h1)
        obtain ⟨b2, o2, rfl, p3, p4⟩ := HT.out j (by rw [HK.out]; exact h2)
        have g1 := (hbel.cell (p := ⟨b1, o1 + j * 2, none⟩) (blk_lt p1)).trans p1
        have g2 := (hbel.cell (p := ⟨b1, o1 + j * 2 + 1, none⟩) (blk_lt p2)).trans p2
        have g3 := (hbel.cell (p := ⟨b2, o2 + j * 2, none⟩) (blk_lt p3)).trans p3
        have g4 := (hbel.cell (p := ⟨b2, o2 + j * 2 + 1, none⟩) (blk_lt p4)).trans p4
        have hj0 : (0 : Int) ≤ (j : Int) := by omega
        obtain ⟨x, hx⟩ : ∃ x, x = (l.getD j eE).1 := ⟨_, rfl⟩
        obtain ⟨y, hy⟩ : ∃ y, y = (l.getD j eE).2 := ⟨_, rfl⟩
        obtain ⟨u, hu⟩ : ∃ u, u = (m.getD j eE).1 := ⟨_, rfl⟩
        obtain ⟨v, hv⟩ : ∃ v, v = (m.getD j eE).2 := ⟨_, rfl⟩
        rw [← hx] at g1
        rw [← hy] at g2
        rw [← hu] at g3
        rw [← hv] at g4
        have HXY : Hid (l.getD j eE = (x, y)) := by show _ = _; rw [hx, hy]
        have HUV : Hid (m.getD j eE = (u, v)) := by show _ = _; rw [hu, hv]
        have B0 := hide hbel
        clear p1 p2 p3 p4 hx hy hu hv hbel
        by_cases e1 : x = u
        · subst e1
          have f1 : (x == x) = true := by simp
          by_cases e2 : y = v
          · subst e2
            have f2 : (y.toList == y.toList) = true := by simp
            have HJ2 : Hid (∀ q, q < j + 1 → l.getD q eE = m.getD q eE) := fun q hq => by
              by_cases e : q = j
              · rw [e, HXY.out, HUV.out]
              · exact HJ.out q (by omega)
            go_wp2
            go_quiet (fail)
            go_wp2
            go_roundw
            case rel => exact ⟨j + 1, by omega, by omega, by go_num, HJ2.out, below_dN B0.out _⟩
            case measure => simp [intOf]; omega
          · have f2 : (y.toList == v.toList) = false := text_ne e2
            have E : Hid (prt l m = j) := HP.out j HJ.out (by omega) (by omega) (.inr (.inr (by rw [HXY.out, HUV.out]; intro h; exact e2 (congrArg Prod.snd h))))
            clear e2
            go_wp2
            go_quiet (fail)
            go_wp2
            go_ret
            exact ⟨by rw [E.out]; rfl, below_dN B0.out _⟩
        · have f1 : (x == u) = false := by simpa using e1
          have E : Hid (prt l m = j) := HP.out j HJ.out (by omega) (by omega) (.inr (.inr (by rw [HXY.out, HUV.out]; intro h; exact e1 (congrArg Prod.fst h))))
          clear e1
          go_wp2
          go_quiet (fail)
          go_wp2
          go_ret
          exact ⟨by rw [E.out]; rfl, below_dN B0.out _⟩
      · have h2I : decide ((j : Int) < (k : Int)) = false := by simp; omega
        have E : Hid (prt l m = j) := HP.out j HJ.out (by omega) (by omega) (.inr (.inl (by omega)))
        go_wp2
        go_quiet (fail)
        go_wp2
        go_ret
        exact ⟨by rw [E.out]; rfl, below_dN hbel _⟩
    · have h1I : decide ((j : Int) < (n : Int)) = false := by simp; omega
      have E : Hid (prt l m = j) := HP.out j HJ.out (by omega) (by omega) (.inl (by omega))
      go_wp2
      go_quiet (fail)
      go_wp2
      go_ret
      exact ⟨by rw [E.out]; rfl, below_dN hbel _⟩
end Go.Proofs.Ythmekhhfihjclbd.L7

namespace Go.Proofs.Ythmekhhfihjclbd.L9
open Go.RowKit L1 L7
set_option linter.unusedVariables false

set_option maxRecDepth 100000 in
set_option maxHeartbeats 2000000 in
theorem l9Same_any (ag : Option Addr) (n cg : Nat) (ad : Option Addr) (nd cd : Nat) (ld ep : Int) (ay : Option Addr) (ny cy : Nat) (ac : Option Addr) (nc cc : Nat) (G : List (List En)) (sy : List Int) (ce : List En) (k : Int) (w : World) (hz : RpZ G sy ce n nd ny nc) (hs : RpS w ag ay ac G sy ce) (hk : 0 ≤ k ∧ k < (n : Int)) (hl : 0 ≤ ld ∧ ld < (n : Int)) (bb : Bool) (hbb : bb = true ↔ gg G k = gg G ld) :
    Calls Try.prog 96 #[rpV ag n cg ad nd cd ld ep ay ny cy ac nc cc, .int .i64 k] w fun e w' => e = .returned (.bool bb) ∧ Below w.heap.size w w' := by
  obtain ⟨w1, hw1⟩ : ∃ w1, w.alloc (rpO ag n cg ad nd cd ld ep ay ny cy ac nc cc) = w1 := ⟨_, rfl⟩
  have B1 : Hid (Below w.heap.size w w1) := by rw [← hw1]; exact hide ((Below.refl _ _).alloc (Nat.le_refl _) _)
  have G1 : Hid (w1.heap[w.heap.size]? = some (rpO ag n cg ad nd cd ld ep ay ny cy ac nc cc)) := by rw [← hw1]; exact hide (blk_new9 _ _)
  have HW := hide hw1
  have hs1 := hs.below B1.out
  have hn := hz.hn
  obtain ⟨b, off, rfl, i, ai, ci, hi, hin, hci, hsi⟩ := hs1.g.at' k hk.1 (by omega)
  obtain ⟨b', off', hba, j, aj, cj, hj, hjn, hcj, hsj⟩ := hs1.g.at' ld hl.1 (by omega)
  cases hba
  subst hi
  subst hj
  obtain ⟨k0, k1, k2, k3, k4, k5⟩ := blk6 G1.out
  have h1 := hz.ls i hin
  have h2 := hz.ls j hjn
  obtain ⟨l, hll⟩ : ∃ l, l = gg G (i : Int) := ⟨_, rfl⟩
  obtain ⟨m, hmm⟩ : ∃ m, m = gg G (j : Int) := ⟨_, rfl⟩
  rw [← hll] at hci hsi hbb
  rw [← hmm] at hcj hsj hbb
  rw [show G.getD i [] = l from hll.symm] at h1
  rw [show G.getD j [] = m from hmm.symm] at h2
  obtain ⟨p, hp⟩ : ∃ p, p = l.length := ⟨_, rfl⟩
  obtain ⟨q, hq⟩ : ∃ q, q = m.length := ⟨_, rfl⟩
  rw [← hp] at hci h1
  rw [← hq] at hcj h2
  have hiI : (i : Int) < (n : Int) := by omega
  have hi0 : (0 : Int) ≤ (i : Int) := by omega
  have hjI : (j : Int) < (n : Int) := by omega
  have hj0 : (0 : Int) ≤ (j : Int) := by omega
  have hwh := prt_whole l m
  rw [← hp, ← hq] at hwh
  have C := hide (l7Part_any ai aj l m p ci q cj w1 hp.symm hq.symm hsi hsj h1 h2)
  obtain ⟨t, ht⟩ : ∃ t, t = prt l m := ⟨_, rfl⟩
  rw [← ht] at C hwh
  have HBB := hide (hbb.trans hwh.symm)
  clear hs hz hs1 hll hmm hp hq hsi hsj hn hk hl hbb hw1 hwh ht
  by_cases hpq : p = q
  · subst hpq
    go_enter Try.func96, Try.ntmps96
    go_upto_region 1 with fail
    rw [HW.out]
    clear HW
    go_wp2_with fail
    refine C.out.mono ?_
    rintro e w2 ⟨rfl, hb⟩
    have B2 := hide (B1.out.trans (hb.mono B1.out.size))
    clear hb
    by_cases htp : t = p
    · have E : Hid (bb = true) := HBB.out.2 ⟨by first | rfl | trivial, htp⟩
      subst htp
      go_wp2
      go_ret
      exact ⟨by rw [E.out]; rfl, B2.out⟩
    · have E : Hid (bb = false) := bool_noT HBB.out (fun h => htp h.2)
      have hq2 : ((t : Int) == (p : Int)) = false := by simp; omega
      go_wp2
      go_ret
      exact ⟨by rw [E.out]; rfl, B2.out⟩
  · have E : Hid (bb = false) := bool_noT HBB.out (fun h => hpq h.1)
    have hq2 : ((p : Int) == (q : Int)) = false := by simp; omega
    go_enter Try.func96, Try.ntmps96
    go_upto_region 1 with fail
    rw [HW.out]
    clear HW
    go_wp2
    go_ret
    exact ⟨by rw [E.out]; rfl, B1.out⟩
end Go.Proofs.Ythmekhhfihjclbd.L9

namespace Go.Proofs.Ythmekhhfihjclbd.L9
open Go.RowKit L1 L7
set_option linter.unusedVariables false

set_option maxRecDepth 100000 in
set_option maxHeartbeats 2000000 in
theorem sdo_4 (S : Nat → Prop) (V : List Value) (gb cg db cd : Nat) (ay : Option Addr) (cy : Nat) (ac : Option Addr) (cc : Nat) (r : Rm) (w : World) (hI : Inv r) (hW : RW w S V (.slice (some ⟨gb, 0, none⟩) r.G.length cg) (.slice (some ⟨db, 0, none⟩) r.dn.length cd) (.slice ay r.sy.length cy) (.slice ac r.ce.length cc) r) (hS : ∀ q, S q → q < w.heap.size) (nd : Int) (t : ByteArray) (ht : t.size = 0) (h0 : 0 ≤ nd) (h1 : nd < (r.G.length : Int)) (o : Option Rm) (ho : o = if gg r.G nd = r.lead ∧ r.down r.ld = false ∧ nd ∉ r.sy then some { r with sy := L4.put r.sy nd } else none) :
    Calls Try.prog 80 #[rpV (some ⟨gb, 0, none⟩) r.G.length cg (some ⟨db, 0, none⟩) r.dn.length cd r.ld r.ep ay r.sy.length cy ac r.ce.length cc, .agg #[.int .i64 4, .int .i64 nd, .string t]] w fun e w' => SDo S w (o.getD r) o.isSome e w' := by
  obtain rfl := empty_of ht
  have hnode := hI.node
  have hdn := hI.good.down
  have hn1 := hI.good.logs.1
  have hzz := rpz_of hI
  obtain ⟨i, rfl⟩ : ∃ i : Nat, nd = (i : Int) := ⟨nd.toNat, by omega⟩
  obtain ⟨j, hj⟩ : ∃ j : Nat, r.ld = (j : Int) := ⟨r.ld.toNat, by omega⟩
  obtain ⟨n, hn⟩ : ∃ n, n = r.G.length := ⟨_, rfl⟩
  obtain ⟨ny, hny⟩ : ∃ ny, ny = r.sy.length := ⟨_, rfl⟩
  obtain ⟨nc, hnc⟩ : ∃ nc, nc = r.ce.length := ⟨_, rfl⟩
  obtain ⟨E, hE⟩ : ∃ E, E = r.ep := ⟨_, rfl⟩
  have hin : i < n := by omega
  have hjn : j < n := by omega
  obtain ⟨hsz3, X0, X1, X2, BX0⟩ := alloc3 w (Obj.cells #[.slice (some ⟨gb, 0, none⟩) n cg, .slice (some ⟨db, 0, none⟩) n cd, .int .i64 (j : Int), .int .i64 E, .slice ay ny cy, .slice ac nc cc] 32) (Obj.cells #[.int .i64 4, .int .i64 (i : Int), .string ByteArray.empty] 50) zR
  obtain ⟨w3, hw3⟩ : ∃ w3, w3 = ((w.alloc (Obj.cells #[.slice (some ⟨gb, 0, none⟩) n cg, .slice (some ⟨db, 0, none⟩) n cd, .int .i64 (j : Int), .int .i64 E, .slice ay ny cy, .slice ac nc cc] 32)).alloc (Obj.cells #[.int .i64 4, .int .i64 (i : Int), .string ByteArray.empty] 50)).alloc zR := ⟨_, rfl⟩
  rw [← hw3] at hsz3 X0 X1 X2 BX0
  have HW3 := hide hw3
  clear hw3
  have s0 : w3.cell? ⟨w.heap.size + 1, 0, none⟩ = some (.int .i64 4) := by simp [World.cell?, X1]
  have s1 : w3.cell? ⟨w.heap.size + 1, 1, none⟩ = some (.int .i64 (i : Int)) := by simp [World.cell?, X1]
  have s2 : w3.cell? ⟨w.heap.size + 1, 2, none⟩ = some (.string ByteArray.empty) := by simp [World.cell?, X1]
  obtain ⟨g0, g1, g2, g3, g4, g5⟩ := blk6 X0
  have hWx := hW.below BX0
  have hRB : RB w3 (fun q => S q ∨ q = w.heap.size) w.heap.size r := ⟨V, _, _, _, _, by rw [X0, hdn, ← hn, ← hny, ← hnc, ← hE, hj], hWx.mono (fun q hq => .inl hq), .inr rfl⟩
  have HWX := hide (hWx.mono (S' := fun q => S q ∨ q = w.heap.size) (fun q hq => .inl hq))
  have HBX : Hid (w3.heap[w.heap.size]? = some (rbO (.slice (some ⟨gb, 0, none⟩) r.G.length cg) (.slice (some ⟨db, 0, none⟩) r.dn.length cd) r.ld r.ep (.slice ay r.sy.length cy) (.slice ac r.ce.length cc))) := hide (by rw [X0, hdn, ← hn, ← hny, ← hnc, ← hE, hj])
  have hS3 : ∀ q, (S q ∨ q = w.heap.size) → q < w3.heap.size := fun q hq => by
    rcases hq with hq | hq
    · have := hS q hq; omega
    · omega
  have OUT := hide (fun R w5 (hD : Done (fun q => S q ∨ q = w.heap.size) w3 w.heap.size R w5) (hIR : Inv R) => sdo_out hS BX0 ⟨Nat.le_refl _, by omega⟩ ⟨by omega, by omega⟩ X2 hD hIR)
  have ci := hWx.downAt i (by omega)
  have cj := hWx.downAt j (by omega)
  obtain ⟨x, hx⟩ : ∃ x, x = r.dn.getD i false := ⟨_, rfl⟩
  have HX : Hid (r.down (i : Int) = x) := hide hx.symm
  rw [← hx] at ci
  obtain ⟨y, hy⟩ : ∃ y, y = r.dn.getD j false := ⟨_, rfl⟩
  have HY : Hid (r.down r.ld = y) := hide (by rw [hj]; exact hy.symm)
  rw [← hy] at cj
  obtain ⟨bi, hbi⟩ : ∃ bi : Bool, bi = true ↔ (i : Int) ∈ r.sy := ⟨decide ((i : Int) ∈ r.sy), by simp⟩
  have HBI := hide hbi
  have HLD := hide hj
  have HEP := hide hE
  have HI := hide hI
  have HRB := hide hRB
  have HO := hide ho
  have he0 : 1 ≤ E := by rw [hE]; exact hI.good.e0
  have he1 : E ≤ 1000 := by rw [hE]; exact hI.good.e1
  have hy6 := hzz.y2
  rw [← hny] at hy6
  have CI := hide (L4.l1Has_any ay r.sy ny cy (i : Int) w3 hny.symm hWx.rps.1.y hy6 bi hbi)
  have fz : ∀ c, w3.frozen? ⟨w.heap.size, c, none⟩ = false := fun c => frz X0 c
  have fd : ∀ c, w3.frozen? ⟨db, c, none⟩ = false := fun c => own_frz hWx.d c
  have fg : ∀ c, w3.frozen? ⟨gb, c, none⟩ = false := fun c => own_frz hWx.g c
  obtain ⟨z0, z1, z2, z3, z4, z5⟩ := blk6 X2
  have zf : ∀ c, w3.frozen? ⟨w.heap.size + 2, c, none⟩ = false := fun c => frz X2 c
  have hiI : (i : Int) < (n : Int) := by omega
  have hi0 : (0 : Int) ≤ (i : Int) := by omega
  have hi0' : ¬ (i : Int) < 0 := by omega
  have hiI' : ¬ (n : Int) ≤ (i : Int) := by omega
  have hjI : (j : Int) < (n : Int) := by omega
  have hj0 : (0 : Int) ≤ (j : Int) := by omega
  have HB0 := hide BX0
  have HNN := hide hn
  have hdb : db < w3.heap.size := blk_lt9 ci
  have hgb : gb < w3.heap.size := by obtain ⟨_, _, _, hc, _⟩ := hWx.logAt i (by omega); exact blk_lt9 hc
  have hp0 : w.heap.size < w3.heap.size := by omega
  have hp2 : w.heap.size + 2 < w3.heap.size := by omega
  rw [hdn, ← hn, ← hny, ← hnc, ← hE, hj]
  have SAME := hide (fun w5 (h5 : Below w.heap.size w w5) v0 v1 v2 v3 v4 v5 => sdo_same (z := w.heap.size + 2) hW hS h5 (by omega) false v0 v1 v2 v3 v4 v5)
  simp only [hdn, ← hn, ← hny, ← hnc, ← hE, hj] at SAME

  obtain ⟨ys, hys⟩ : ∃ ys, ys = L4.put r.sy (i : Int) := ⟨_, rfl⟩
  obtain ⟨m, hm⟩ : ∃ m, m = ys.length := ⟨_, rfl⟩
  have HYS := hide hys
  have HM := hide hm

  obtain ⟨bl, hbl⟩ : ∃ bl : Bool, bl = true ↔ gg r.G (i : Int) = gg r.G r.ld := by classical exact ⟨decide (gg r.G (i : Int) = gg r.G r.ld), by simp⟩
  have HBL := hide hbl
  have CE := hide (fun wx (hb : Below w3.heap.size w3 wx) => l9Same_any (some ⟨gb, 0, none⟩) r.G.length cg (some ⟨db, 0, none⟩) r.dn.length cd r.ld r.ep ay r.sy.length cy ac r.ce.length cc r.G r.sy r.ce (i : Int) wx hzz (hWx.rps.1.below hb) ⟨by omega, by omega⟩ ⟨by omega, by omega⟩ bl hbl)
  simp only [hdn, ← hn, ← hny, ← hnc, ← hE, hj] at CE
  have CW := hide (fun wx (hbw : Below w3.heap.size w3 wx) (hnm : (i : Int) ∉ r.sy) => (L4.put_new (.slice ay ny cy) r.sy (i : Int) 0 wx (by rw [← hny]; have := hI.good.rise; have h9 := rn_small hI; omega) hnm (by unfold L4.OwnL; rw [hny]; exact (hWx.below hbw).y)).mono (fun e w6 h => show ∃ a5 c5, e = .returned (.slice a5 m c5) ∧ (w6.ownsRow w3.heap.size 3 1 (.slice a5 m c5) m (ys.map (Value.int .i64)) ∧ Below w3.heap.size w3 w6) ∧ w6.cell? ⟨w.heap.size, 4, none⟩ = some (.slice ay ny cy) ∧ w6.frozen? ⟨w.heap.size, 4, none⟩ = false by
    obtain ⟨v, rfl, ho3, hb3⟩ := h
    have hb6 := hbw.trans (hb3.mono hbw.size)
    unfold L4.OwnL at ho3
    rw [← hys, ← hm] at ho3
    obtain ⟨a5, c5, rfl⟩ := L4.own_shapeT ho3
    exact ⟨a5, c5, rfl, ⟨own_baseZ ho3 hbw.size, hb6⟩, (hb6.cell (p := ⟨w.heap.size, 4, none⟩) (blk_lt9 g4)).trans g4, frz ((hb6.block w.heap.size (Array.getElem?_eq_some_iff.1 X0).1).trans X0) 4⟩))
  clear hys hm hbl hx hy hbi hj hE hny hnc hn ho hI hW hWx hRB hzz hdn hn1 hnode X0 X1 X2 hy6 BX0 ht
  go_enter Try.func80, Try.ntmps80
  go_upto_region 1 with fail
  rw [← HW3.out]
  go_wp2_with fail
  refine CI.out.mono ?_
  rintro e w4 ⟨rfl, hb4⟩
  replace g0 := (hb4.cell (blk_lt9 g0)).trans g0
  replace g1 := (hb4.cell (blk_lt9 g1)).trans g1
  replace g2 := (hb4.cell (blk_lt9 g2)).trans g2
  replace g3 := (hb4.cell (blk_lt9 g3)).trans g3
  replace g4 := (hb4.cell (blk_lt9 g4)).trans g4
  replace g5 := (hb4.cell (blk_lt9 g5)).trans g5
  replace s0 := (hb4.cell (blk_lt9 s0)).trans s0
  replace s1 := (hb4.cell (blk_lt9 s1)).trans s1
  replace s2 := (hb4.cell (blk_lt9 s2)).trans s2
  replace ci := (hb4.cell (blk_lt9 ci)).trans ci
  replace cj := (hb4.cell (blk_lt9 cj)).trans cj
  replace z0 := (hb4.cell (blk_lt9 z0)).trans z0
  replace z1 := (hb4.cell (blk_lt9 z1)).trans z1
  replace z2 := (hb4.cell (blk_lt9 z2)).trans z2
  replace z3 := (hb4.cell (blk_lt9 z3)).trans z3
  replace z4 := (hb4.cell (blk_lt9 z4)).trans z4
  replace z5 := (hb4.cell (blk_lt9 z5)).trans z5
  replace fz : ∀ c, w4.frozen? ⟨w.heap.size, c, none⟩ = false := fun c => (World.frozen?_of_block (a := ⟨w.heap.size, c, none⟩) (hb4.block _ hp0)).trans (fz c)
  replace fd : ∀ c, w4.frozen? ⟨db, c, none⟩ = false := fun c => (World.frozen?_of_block (a := ⟨db, c, none⟩) (hb4.block _ hdb)).trans (fd c)
  replace fg : ∀ c, w4.frozen? ⟨gb, c, none⟩ = false := fun c => (World.frozen?_of_block (a := ⟨gb, c, none⟩) (hb4.block _ hgb)).trans (fg c)
  replace zf : ∀ c, w4.frozen? ⟨w.heap.size + 2, c, none⟩ = false := fun c => (World.frozen?_of_block (a := ⟨w.heap.size + 2, c, none⟩) (hb4.block _ hp2)).trans (zf c)
  have HB4 := hide hb4
  have HBW := hide (HB0.out.trans (hb4.mono HB0.out.size))
  clear hb4 CI
  cases y with
  | true =>
    have hoo := HO.out
    rw [if_neg (fun h => by have h2 := h.2.1; rw [HY.out] at h2; cases h2)] at hoo
    subst hoo
    go_wp2
    refine bodyPost_ret (v := .tuple #[rpV (some ⟨gb, 0, none⟩) n cg (some ⟨db, 0, none⟩) n cd (j : Int) E ay ny cy ac nc cc, .bool false]) (by simp [results, Try.f80, go_sem, z0, z1, z2, z3, z4, z5]) rfl ?_
    exact SAME.out _ (HBW.out) _ _ _ _ _ _

  | false =>
    cases bi with
    | true =>
      have hoo := HO.out
      rw [if_neg (fun h => h.2.2 (HBI.out.1 (by first | rfl | trivial)))] at hoo
      subst hoo
      go_wp2
      refine bodyPost_ret (v := .tuple #[rpV (some ⟨gb, 0, none⟩) n cg (some ⟨db, 0, none⟩) n cd (j : Int) E ay ny cy ac nc cc, .bool false]) (by simp [results, Try.f80, go_sem, z0, z1, z2, z3, z4, z5]) rfl ?_
      exact SAME.out _ (HBW.out) _ _ _ _ _ _

    | false =>
      go_wp2_with fail
      refine (CE.out w4 HB4.out).mono ?_
      rintro e w5a ⟨rfl, hb5⟩
      replace g0 := (hb5.cell (blk_lt9 g0)).trans g0
      replace g1 := (hb5.cell (blk_lt9 g1)).trans g1
      replace g2 := (hb5.cell (blk_lt9 g2)).trans g2
      replace g3 := (hb5.cell (blk_lt9 g3)).trans g3
      replace g4 := (hb5.cell (blk_lt9 g4)).trans g4
      replace g5 := (hb5.cell (blk_lt9 g5)).trans g5
      replace s0 := (hb5.cell (blk_lt9 s0)).trans s0
      replace s1 := (hb5.cell (blk_lt9 s1)).trans s1
      replace s2 := (hb5.cell (blk_lt9 s2)).trans s2
      replace ci := (hb5.cell (blk_lt9 ci)).trans ci
      replace cj := (hb5.cell (blk_lt9 cj)).trans cj
      replace z0 := (hb5.cell (blk_lt9 z0)).trans z0
      replace z1 := (hb5.cell (blk_lt9 z1)).trans z1
      replace z2 := (hb5.cell (blk_lt9 z2)).trans z2
      replace z3 := (hb5.cell (blk_lt9 z3)).trans z3
      replace z4 := (hb5.cell (blk_lt9 z4)).trans z4
      replace z5 := (hb5.cell (blk_lt9 z5)).trans z5
      replace fz : ∀ c, w5a.frozen? ⟨w.heap.size, c, none⟩ = false := fun c => (World.frozen?_of_block (a := ⟨w.heap.size, c, none⟩) (hb5.block _ (Nat.lt_of_lt_of_le hp0 HB4.out.size))).trans (fz c)
      replace zf : ∀ c, w5a.frozen? ⟨w.heap.size + 2, c, none⟩ = false := fun c => (World.frozen?_of_block (a := ⟨w.heap.size + 2, c, none⟩) (hb5.block _ (Nat.lt_of_lt_of_le hp2 HB4.out.size))).trans (zf c)

      have HB5 := hide (HB4.out.trans (hb5.mono HB4.out.size))
      have HBW5 := hide (HBW.out.trans (hb5.mono HBW.out.size))
      clear hb5 CE
      cases bl with
      | false =>
        have hoo := HO.out
        rw [if_neg (fun h => by have := HBL.out.2 h.1; cases this)] at hoo
        subst hoo
        go_wp2
        refine bodyPost_ret (v := .tuple #[rpV (some ⟨gb, 0, none⟩) n cg (some ⟨db, 0, none⟩) n cd (j : Int) E ay ny cy ac nc cc, .bool false]) (by simp [results, Try.f80, go_sem, z0, z1, z2, z3, z4, z5]) rfl ?_
        exact SAME.out _ (HBW5.out) _ _ _ _ _ _

      | true =>
        have hoo := HO.out
        rw [if_pos (⟨HBL.out.1 (by first | rfl | trivial), HY.out, fun h => by have := HBI.out.2 h; cases this⟩)] at hoo
        obtain ⟨R, hR⟩ : ∃ R, R = { r with sy := L4.put r.sy (i : Int) } := ⟨_, rfl⟩
        have hIR : Inv R := by rw [hR]; exact (HI.out.doStep (kd := 4) (nd := (i : Int)) (t := ByteArray.empty) (by unfold doM; rw [if_neg (by decide), if_pos ⟨rfl, hi0, by have := HNN.out; omega⟩, if_neg (by decide), if_neg (by decide), if_pos rfl, if_pos ⟨HBL.out.1 (by first | rfl | trivial), HY.out, fun h => by have := HBI.out.2 h; cases this⟩]))
        go_wp2_with fail
        refine (CW.out w5a HB5.out (fun h => by have := HBI.out.2 h; cases this)).mono ?_
        rintro e w6 ⟨a5, c5, rfl, ho6, c4, f4⟩
        go_upto_region 31 with fail
        have hD := (by rw [← HYS.out]; exact done_sync HWX.out HBX.out (.inr rfl) ho6.2 _ ys (by rw [← HM.out]; exact ho6.1) : Done (fun q => S q ∨ q = w.heap.size) w3 w.heap.size { r with sy := L4.put r.sy (i : Int) } (w6.setCell ⟨w.heap.size, 4, none⟩ (.slice a5 m c5)))
        obtain ⟨w5, hw5⟩ : ∃ w5, w5 = w6.setCell ⟨w.heap.size, 4, none⟩ (.slice a5 m c5) := ⟨_, rfl⟩
        rw [← hw5] at hD ⊢
        rw [← hR] at hD
        have e0 : o = some R := by rw [hoo, hR]; first | done | rfl
        subst e0
        clear hw5 hoo hR
        obtain ⟨gb', cg', db', cd', ay', cy', ac', cc', hb5, hz5, fin⟩ := OUT.out R w5 hD hIR
        obtain ⟨k0, k1, k2, k3, k4, k5⟩ := blk6 hb5
        obtain ⟨y0, y1, y2, y3, y4, y5⟩ := blk6 hz5
        have yf : ∀ c, w5.frozen? ⟨w.heap.size + 2, c, none⟩ = false := fun c => frz hz5 c
        obtain ⟨n1, hn1⟩ : ∃ x, x = R.G.length := ⟨_, rfl⟩
        obtain ⟨n2, hn2⟩ : ∃ x, x = R.dn.length := ⟨_, rfl⟩
        obtain ⟨n3, hn3⟩ : ∃ x, x = R.sy.length := ⟨_, rfl⟩
        obtain ⟨n4, hn4⟩ : ∃ x, x = R.ce.length := ⟨_, rfl⟩
        obtain ⟨x1, hx1⟩ : ∃ x, x = R.ld := ⟨_, rfl⟩
        obtain ⟨x2, hx2⟩ : ∃ x, x = R.ep := ⟨_, rfl⟩
        have FIN := hide fin
        simp only [← hn1, ← hn2, ← hn3, ← hn4, ← hx1, ← hx2] at FIN k0 k1 k2 k3 k4 k5
        clear hn1 hn2 hn3 hn4 hx1 hx2 hb5 hz5 fin hD hIR g0 g1 g2 g3 g4 g5 z0 z1 z2 z3 z4 z5
        go_wp2
        refine bodyPost_ret (v := .tuple #[rpV (some ⟨gb', 0, none⟩) n1 cg' (some ⟨db', 0, none⟩) n2 cd' x1 x2 ay' n3 cy' ac' n4 cc', .bool true]) (by simp [results, Try.f80, go_sem, y0, y1, y2, y3, y4, y5]) rfl ?_
        exact FIN.out _ _ _ _ _ _
end Go.Proofs.Ythmekhhfihjclbd.L9

namespace Go.Proofs.Ythmekhhfihjclbd.L9
open Go.RowKit L1 L7
set_option linter.unusedVariables false

set_option maxRecDepth 100000 in
set_option maxHeartbeats 2000000 in
theorem sdo_5 (S : Nat → Prop) (V : List Value) (gb cg db cd : Nat) (ay : Option Addr) (cy : Nat) (ac : Option Addr) (cc : Nat) (r : Rm) (w : World) (hI : Inv r) (hW : RW w S V (.slice (some ⟨gb, 0, none⟩) r.G.length cg) (.slice (some ⟨db, 0, none⟩) r.dn.length cd) (.slice ay r.sy.length cy) (.slice ac r.ce.length cc) r) (hS : ∀ q, S q → q < w.heap.size) (nd : Int) (t : ByteArray) (ht : t.size = 0) (h0 : 0 ≤ nd) (h1 : nd < (r.G.length : Int)) (o : Option Rm) (ho : o = if r.down nd = false then some { r with dn := r.dn.set nd.toNat true } else none) :
    Calls Try.prog 80 #[rpV (some ⟨gb, 0, none⟩) r.G.length cg (some ⟨db, 0, none⟩) r.dn.length cd r.ld r.ep ay r.sy.length cy ac r.ce.length cc, .agg #[.int .i64 5, .int .i64 nd, .string t]] w fun e w' => SDo S w (o.getD r) o.isSome e w' := by
  obtain rfl := empty_of ht
  have hnode := hI.node
  have hdn := hI.good.down
  have hn1 := hI.good.logs.1
  have hzz := rpz_of hI
  obtain ⟨i, rfl⟩ : ∃ i : Nat, nd = (i : Int) := ⟨nd.toNat, by omega⟩
  obtain ⟨j, hj⟩ : ∃ j : Nat, r.ld = (j : Int) := ⟨r.ld.toNat, by omega⟩
  obtain ⟨n, hn⟩ : ∃ n, n = r.G.length := ⟨_, rfl⟩
  obtain ⟨ny, hny⟩ : ∃ ny, ny = r.sy.length := ⟨_, rfl⟩
  obtain ⟨nc, hnc⟩ : ∃ nc, nc = r.ce.length := ⟨_, rfl⟩
  obtain ⟨E, hE⟩ : ∃ E, E = r.ep := ⟨_, rfl⟩
  have hin : i < n := by omega
  have hjn : j < n := by omega
  obtain ⟨hsz3, X0, X1, X2, BX0⟩ := alloc3 w (Obj.cells #[.slice (some ⟨gb, 0, none⟩) n cg, .slice (some ⟨db, 0, none⟩) n cd, .int .i64 (j : Int), .int .i64 E, .slice ay ny cy, .slice ac nc cc] 32) (Obj.cells #[.int .i64 5, .int .i64 (i : Int), .string ByteArray.empty] 50) zR
  obtain ⟨w3, hw3⟩ : ∃ w3, w3 = ((w.alloc (Obj.cells #[.slice (some ⟨gb, 0, none⟩) n cg, .slice (some ⟨db, 0, none⟩) n cd, .int .i64 (j : Int), .int .i64 E, .slice ay ny cy, .slice ac nc cc] 32)).alloc (Obj.cells #[.int .i64 5, .int .i64 (i : Int), .string ByteArray.empty] 50)).alloc zR := ⟨_, rfl⟩
  rw [← hw3] at hsz3 X0 X1 X2 BX0
  have HW3 := hide hw3
  clear hw3
  have s0 : w3.cell? ⟨w.heap.size + 1, 0, none⟩ = some (.int .i64 5) := by simp [World.cell?, X1]
  have s1 : w3.cell? ⟨w.heap.size + 1, 1, none⟩ = some (.int .i64 (i : Int)) := by simp [World.cell?, X1]
  have s2 : w3.cell? ⟨w.heap.size + 1, 2, none⟩ = some (.string ByteArray.empty) := by simp [World.cell?, X1]
  obtain ⟨g0, g1, g2, g3, g4, g5⟩ := blk6 X0
  have hWx := hW.below BX0
  have hRB : RB w3 (fun q => S q ∨ q = w.heap.size) w.heap.size r := ⟨V, _, _, _, _, by rw [X0, hdn, ← hn, ← hny, ← hnc, ← hE, hj], hWx.mono (fun q hq => .inl hq), .inr rfl⟩
  have HWX := hide (hWx.mono (S' := fun q => S q ∨ q = w.heap.size) (fun q hq => .inl hq))
  have HBX : Hid (w3.heap[w.heap.size]? = some (rbO (.slice (some ⟨gb, 0, none⟩) r.G.length cg) (.slice (some ⟨db, 0, none⟩) r.dn.length cd) r.ld r.ep (.slice ay r.sy.length cy) (.slice ac r.ce.length cc))) := hide (by rw [X0, hdn, ← hn, ← hny, ← hnc, ← hE, hj])
  have hS3 : ∀ q, (S q ∨ q = w.heap.size) → q < w3.heap.size := fun q hq => by
    rcases hq with hq | hq
    · have := hS q hq; omega
    · omega
  have OUT := hide (fun R w5 (hD : Done (fun q => S q ∨ q = w.heap.size) w3 w.heap.size R w5) (hIR : Inv R) => sdo_out hS BX0 ⟨Nat.le_refl _, by omega⟩ ⟨by omega, by omega⟩ X2 hD hIR)
  have ci := hWx.downAt i (by omega)
  have cj := hWx.downAt j (by omega)
  obtain ⟨x, hx⟩ : ∃ x, x = r.dn.getD i false := ⟨_, rfl⟩
  have HX : Hid (r.down (i : Int) = x) := hide hx.symm
  rw [← hx] at ci
  obtain ⟨y, hy⟩ : ∃ y, y = r.dn.getD j false := ⟨_, rfl⟩
  have HY : Hid (r.down r.ld = y) := hide (by rw [hj]; exact hy.symm)
  rw [← hy] at cj
  obtain ⟨bi, hbi⟩ : ∃ bi : Bool, bi = true ↔ (i : Int) ∈ r.sy := ⟨decide ((i : Int) ∈ r.sy), by simp⟩
  have HBI := hide hbi
  have HLD := hide hj
  have HEP := hide hE
  have HI := hide hI
  have HRB := hide hRB
  have HO := hide ho
  have he0 : 1 ≤ E := by rw [hE]; exact hI.good.e0
  have he1 : E ≤ 1000 := by rw [hE]; exact hI.good.e1
  have hy6 := hzz.y2
  rw [← hny] at hy6
  have CI := hide (L4.l1Has_any ay r.sy ny cy (i : Int) w3 hny.symm hWx.rps.1.y hy6 bi hbi)
  have fz : ∀ c, w3.frozen? ⟨w.heap.size, c, none⟩ = false := fun c => frz X0 c
  have fd : ∀ c, w3.frozen? ⟨db, c, none⟩ = false := fun c => own_frz hWx.d c
  have fg : ∀ c, w3.frozen? ⟨gb, c, none⟩ = false := fun c => own_frz hWx.g c
  obtain ⟨z0, z1, z2, z3, z4, z5⟩ := blk6 X2
  have zf : ∀ c, w3.frozen? ⟨w.heap.size + 2, c, none⟩ = false := fun c => frz X2 c
  have hiI : (i : Int) < (n : Int) := by omega
  have hi0 : (0 : Int) ≤ (i : Int) := by omega
  have hi0' : ¬ (i : Int) < 0 := by omega
  have hiI' : ¬ (n : Int) ≤ (i : Int) := by omega
  have hjI : (j : Int) < (n : Int) := by omega
  have hj0 : (0 : Int) ≤ (j : Int) := by omega
  have HB0 := hide BX0
  have hdb : db < w3.heap.size := blk_lt9 ci
  have hgb : gb < w3.heap.size := by obtain ⟨_, _, _, hc, _⟩ := hWx.logAt i (by omega); exact blk_lt9 hc
  have hp0 : w.heap.size < w3.heap.size := by omega
  have hp2 : w.heap.size + 2 < w3.heap.size := by omega
  rw [hdn, ← hn, ← hny, ← hnc, ← hE, hj]
  have SAME := hide (fun w5 (h5 : Below w.heap.size w w5) v0 v1 v2 v3 v4 v5 => sdo_same (z := w.heap.size + 2) hW hS h5 (by omega) false v0 v1 v2 v3 v4 v5)
  simp only [hdn, ← hn, ← hny, ← hnc, ← hE, hj] at SAME
  clear hx hy hbi hj hE hny hnc hn ho hI hW hWx hRB hzz hdn hn1 hnode X0 X1 X2 hy6 BX0 ht
  go_enter Try.func80, Try.ntmps80
  go_upto_region 1 with fail
  rw [← HW3.out]
  go_wp2_with fail
  refine CI.out.mono ?_
  rintro e w4 ⟨rfl, hb4⟩
  replace g0 := (hb4.cell (blk_lt9 g0)).trans g0
  replace g1 := (hb4.cell (blk_lt9 g1)).trans g1
  replace g2 := (hb4.cell (blk_lt9 g2)).trans g2
  replace g3 := (hb4.cell (blk_lt9 g3)).trans g3
  replace g4 := (hb4.cell (blk_lt9 g4)).trans g4
  replace g5 := (hb4.cell (blk_lt9 g5)).trans g5
  replace s0 := (hb4.cell (blk_lt9 s0)).trans s0
  replace s1 := (hb4.cell (blk_lt9 s1)).trans s1
  replace s2 := (hb4.cell (blk_lt9 s2)).trans s2
  replace ci := (hb4.cell (blk_lt9 ci)).trans ci
  replace cj := (hb4.cell (blk_lt9 cj)).trans cj
  replace z0 := (hb4.cell (blk_lt9 z0)).trans z0
  replace z1 := (hb4.cell (blk_lt9 z1)).trans z1
  replace z2 := (hb4.cell (blk_lt9 z2)).trans z2
  replace z3 := (hb4.cell (blk_lt9 z3)).trans z3
  replace z4 := (hb4.cell (blk_lt9 z4)).trans z4
  replace z5 := (hb4.cell (blk_lt9 z5)).trans z5
  replace fz : ∀ c, w4.frozen? ⟨w.heap.size, c, none⟩ = false := fun c => (World.frozen?_of_block (a := ⟨w.heap.size, c, none⟩) (hb4.block _ hp0)).trans (fz c)
  replace fd : ∀ c, w4.frozen? ⟨db, c, none⟩ = false := fun c => (World.frozen?_of_block (a := ⟨db, c, none⟩) (hb4.block _ hdb)).trans (fd c)
  replace fg : ∀ c, w4.frozen? ⟨gb, c, none⟩ = false := fun c => (World.frozen?_of_block (a := ⟨gb, c, none⟩) (hb4.block _ hgb)).trans (fg c)
  replace zf : ∀ c, w4.frozen? ⟨w.heap.size + 2, c, none⟩ = false := fun c => (World.frozen?_of_block (a := ⟨w.heap.size + 2, c, none⟩) (hb4.block _ hp2)).trans (zf c)
  have HB4 := hide hb4
  have HBW := hide (HB0.out.trans (hb4.mono HB0.out.size))
  clear hb4 CI
  cases x with
  | true =>
    have hoo := HO.out
    rw [if_neg (fun h => by rw [HX.out] at h; cases h)] at hoo
    subst hoo
    go_wp2
    refine bodyPost_ret (v := .tuple #[rpV (some ⟨gb, 0, none⟩) n cg (some ⟨db, 0, none⟩) n cd (j : Int) E ay ny cy ac nc cc, .bool false]) (by simp [results, Try.f80, go_sem, z0, z1, z2, z3, z4, z5]) rfl ?_
    exact SAME.out _ (HBW.out) _ _ _ _ _ _

  | false =>
    have hoo := HO.out
    rw [if_pos (HX.out)] at hoo
    obtain ⟨R, hR⟩ : ∃ R, R = { r with dn := r.dn.set i true } := ⟨_, rfl⟩
    have hIR : Inv R := by rw [hR]; exact HI.out.downs _ (by simp)
    go_upto_region 31 with fail
    have hD := done_down HWX.out HBX.out (.inr rfl) HB4.out db cd rfl i true
    obtain ⟨w5, hw5⟩ : ∃ w5, w5 = w4.setCell ⟨db, i, none⟩ (.bool true) := ⟨_, rfl⟩
    rw [← hw5] at hD ⊢
    rw [← hR] at hD
    have e0 : o = some R := by rw [hoo, hR]; first | done | rfl
    subst e0
    clear hw5 hoo hR
    obtain ⟨gb', cg', db', cd', ay', cy', ac', cc', hb5, hz5, fin⟩ := OUT.out R w5 hD hIR
    obtain ⟨k0, k1, k2, k3, k4, k5⟩ := blk6 hb5
    obtain ⟨y0, y1, y2, y3, y4, y5⟩ := blk6 hz5
    have yf : ∀ c, w5.frozen? ⟨w.heap.size + 2, c, none⟩ = false := fun c => frz hz5 c
    obtain ⟨n1, hn1⟩ : ∃ x, x = R.G.length := ⟨_, rfl⟩
    obtain ⟨n2, hn2⟩ : ∃ x, x = R.dn.length := ⟨_, rfl⟩
    obtain ⟨n3, hn3⟩ : ∃ x, x = R.sy.length := ⟨_, rfl⟩
    obtain ⟨n4, hn4⟩ : ∃ x, x = R.ce.length := ⟨_, rfl⟩
    obtain ⟨x1, hx1⟩ : ∃ x, x = R.ld := ⟨_, rfl⟩
    obtain ⟨x2, hx2⟩ : ∃ x, x = R.ep := ⟨_, rfl⟩
    have FIN := hide fin
    simp only [← hn1, ← hn2, ← hn3, ← hn4, ← hx1, ← hx2] at FIN k0 k1 k2 k3 k4 k5
    clear hn1 hn2 hn3 hn4 hx1 hx2 hb5 hz5 fin hD hIR g0 g1 g2 g3 g4 g5 z0 z1 z2 z3 z4 z5
    go_wp2
    refine bodyPost_ret (v := .tuple #[rpV (some ⟨gb', 0, none⟩) n1 cg' (some ⟨db', 0, none⟩) n2 cd' x1 x2 ay' n3 cy' ac' n4 cc', .bool true]) (by simp [results, Try.f80, go_sem, y0, y1, y2, y3, y4, y5]) rfl ?_
    exact FIN.out _ _ _ _ _ _
end Go.Proofs.Ythmekhhfihjclbd.L9
