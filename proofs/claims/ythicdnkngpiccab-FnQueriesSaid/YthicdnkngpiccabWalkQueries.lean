/-
  The walk of the law FnQueries: it returns true at every two lists of bytes; memory that was there stays as it was.
-/
import Derived.Test.YthicdnkngpiccabL4QueryMath
import Derived.Test.YthicdnkngpiccabL4Same
import Derived.Test.YthicdnkngpiccabL4Posts
import Derived.Test.YthicdnkngpiccabL4Eval
import Derived.Test.YthicdnkngpiccabL4SpecEval
import Derived.Test.YthicdnkngpiccabL4DrawE
import Derived.Deep.DeepCutAuto
namespace Go.Proofs.Ythicdnkngpiccab.fnQueries
open Go.RowKit L1 L3 L4
set_option linter.unusedVariables false

theorem some_of {r : Option (List Int)} {ok : Bool} {xs : List Int} (h1 : ok = r.isSome) (h2 : xs = r.getD []) (h : ok = true) : r = some xs := by
  cases r with
  | none => rw [h] at h1; cases h1
  | some s => rw [h2]; rfl
theorem meet_of {s : Bool} {a b : List Int} (ha : GoodP a) (hb : GoodP b) : meetRes s a b = some (those b s a) := by unfold meetRes; rw [if_pos ⟨ha, hb⟩]
theorem own_q {w : World} {B m : Nat} {v : Value} (h : OwnQ w B v m) : ∃ (l : List Qr) (a : Option Addr) (n cap : Nat), v = .slice a n cap ∧ l.length = n ∧ n ≤ m ∧ TxQ l ∧ SlQ w a l := by
  obtain ⟨l, h1, h2, h3⟩ := h
  obtain ⟨a, cap, rfl, s, _⟩ := own_formQ h3
  refine ⟨l, a, _, cap, rfl, rfl, h1.2, fun j hj => ?_, s⟩
  have e : l.getD j eQ = l[j] := by simp [List.getD, List.getElem?_eq_getElem hj]
  have := h2 _ (List.getElem_mem hj)
  rw [e]
  omega
theorem small_tx {ls : List (List Lb)} (h : Small ls) : TxS ls ∧ ∀ i, i < ls.length → (ls.getD i []).length ≤ 1048576 := by
  refine ⟨fun i hi => ⟨?_, fun j hj => ?_⟩, fun i hi => ?_⟩
  · have := (h i hi).1; omega
  · have := (h i hi).2 _ (getDL_mem hj); omega
  · have := (h i hi).1; omega
theorem tx_not {l : List Qr} (h : TxQ l) : TxQ (notQ l) := fun j hj => by
  by_cases e : j < l.length
  · unfold notQ
    rw [app_ahead l _ e]
    exact h j e
  · obtain rfl : j = l.length := by simp [notQ] at hj; omega
    unfold notQ
    rw [app_last]
    exact ⟨Nat.zero_le _, Nat.zero_le _⟩
/-- A label in a block of its own. -/
def AtL (w : World) (g : Nat) (s t : ByteArray) : Prop := w.cell? ⟨g, 0, none⟩ = some (.string s) ∧ w.cell? ⟨g, 1, none⟩ = some (.string t)
theorem AtL.below {w w' : World} {g : Nat} {s t : ByteArray} (h : AtL w g s t) (hb : Below w.heap.size w w') : AtL w' g s t :=
  ⟨(hb.cell (p := ⟨g, 0, none⟩) (blk_lt h.1)).trans h.1, (hb.cell (p := ⟨g, 1, none⟩) (blk_lt h.2)).trans h.2⟩
theorem atL_new (w : World) (s t : ByteArray) (T : TypeId) : AtL (w.alloc (.cells #[.string s, .string t] T)) w.heap.size s t := by
  constructor <;> simp

set_option maxRecDepth 100000 in
set_option maxHeartbeats 8000000 in
theorem walk (a0 : Option Addr) (len0 cap0 : Nat) (z0 : List Int) (a1 : Option Addr) (len1 cap1 : Nat) (z1 : List Int) (w : World) (w0 : IsRow .u8 w a0 len0 cap0 z0) (hr0 : len0 ≤ 140737488351232) (w1 : IsRow .u8 w a1 len1 cap1 z1) (hr1 : len1 ≤ 140737488351232) :
    Calls Try.prog 4 #[.slice a0 len0 cap0, .slice a1 len1 cap1] w fun e w' => e = .returned (.bool true) ∧ Below w.heap.size w w' := by
  have S0 := hide (slb_of_row w0)
  have S1 := hide (slb_of_row w1)
  clear w0 w1
  by_cases hsz : 1048576 < (len0 : Int) + (len1 : Int)
  · go_enter Try.func4, Try.ntmps4
    go_wp2
    go_ret
    exact ⟨rfl, Below.refl _ _⟩
  · have hl0 : len0 ≤ 1048576 := by omega
    have hl1 : len1 ≤ 1048576 := by omega
    go_enter Try.func4, Try.ntmps4
    go_wp2_with fail
    refine (drawEval_any a0 len0 cap0 _ S0.out hl0).mono ?_
    rintro e v1 ⟨rv, pv, rfl, hso, hqo, hb⟩
    obtain ⟨ls, sa, n, sc, rfl, hn, hn61, hsm, hss⟩ := ownS_slS hso
    obtain ⟨q, qa, m, qc, rfl, hm, hm21, hqt, hqs⟩ := own_q hqo
    have HN := hide hn
    have HM := hide hm
    have HTS := hide (small_tx hsm)
    have HTQ := hide hqt
    have hlenE := evRes_len ls q
    obtain ⟨rE, hrE⟩ : ∃ r, r = evRes ls q := ⟨_, rfl⟩
    have c1 := fun (wx : World) (h1 : SlS wx sa ls) (h2 : SlQ wx qa q) => implEval_any sa ls n sc qa q m qc wx HN.out h1 (by omega) HTS.out.1 HTS.out.2 HM.out h2 (by omega) HTQ.out rE hrE
    have c2 := fun (wx : World) (h1 : SlS wx sa ls) (h2 : SlQ wx qa q) => specEval_any sa ls n sc qa q m qc wx HN.out h1 (by omega) HTS.out.1 HTS.out.2 HM.out h2 (by omega) HTQ.out rE hrE
    obtain ⟨zE, hzE⟩ : ∃ zs, zs = rE.getD [] := ⟨_, rfl⟩
    obtain ⟨nE, hnE⟩ : ∃ k, k = zE.length := ⟨_, rfl⟩
    obtain ⟨okE, hokE⟩ : ∃ b, b = rE.isSome := ⟨_, rfl⟩
    simp only [RetL, ← hzE, ← hnE, ← hokE] at c1 c2
    rw [← hrE, ← hzE, ← hnE] at hlenE
    have CI := hide c1
    have CS := hide c2
    have HRE := hide hrE
    have HZE := hide hzE
    have HNE := hide hnE.symm
    have HOKE := hide hokE
    obtain ⟨gd, hgd⟩ : ∃ gd : Bool, gd = true ↔ GoodQ q := by classical exact ⟨decide (GoodQ q), by simp⟩
    have HGD := hide hgd
    have B0 := hide hb
    have R0 := hide hss
    have Q0 := hide hqs
    clear c1 c2 hrE hzE hnE hokE hgd hn hm hsm hqt hso hqo hb hss hqs
    go_wp2_with fail
    refine (CI.out _ R0.out Q0.out).mono ?_
    rintro e v2 ⟨vv, rfl, hoo, hb⟩
    obtain ⟨aX, cX, rfl, ss, _⟩ := own_formC hoo
    have bb := hide hb
    have B1 := hide (B0.out.trans (bb.out.mono B0.out.size))
    clear B0
    have R1 := hide (R0.out.below bb.out)
    clear R0
    have Q1 := hide (Q0.out.below bb.out)
    clear Q0
    clear bb
    have X0 := hide ss
    clear hb hoo ss
    go_wp2_with fail
    refine (CS.out _ R1.out Q1.out).mono ?_
    rintro e v3 ⟨vv, rfl, hoo, hb⟩
    obtain ⟨aY, cY, rfl, ss, _⟩ := own_formC hoo
    have bb := hide hb
    have B2 := hide (B1.out.trans (bb.out.mono B1.out.size))
    clear B1
    have R2 := hide (R1.out.below bb.out)
    clear R1
    have Q2 := hide (Q1.out.below bb.out)
    clear Q1
    have X1 := hide (X0.out.below bb.out)
    clear X0
    clear bb
    have Y0 := hide ss
    clear hb hoo ss
    go_wp2_with fail
    refine (sameInts_any _ _ zE nE _ _ _ HNE.out X1.out.sl Y0.out.sl (by omega)).mono ?_
    rintro e v4 ⟨rfl, hb⟩
    have bb := hide hb
    have B3 := hide (B2.out.trans (bb.out.mono B2.out.size))
    clear B2
    have R3 := hide (R2.out.below bb.out)
    clear R2
    have Q3 := hide (Q2.out.below bb.out)
    clear Q2
    have X2 := hide (X1.out.below bb.out)
    clear X1
    clear Y0
    clear bb
    clear hb
    go_wp2_with fail
    refine (goodQuery_any _ q m _ _ HM.out Q3.out (by omega) HTQ.out gd HGD.out).mono ?_
    rintro e v5 ⟨rfl, hb⟩
    have bb := hide hb
    have B4 := hide (B3.out.trans (bb.out.mono B3.out.size))
    clear B3
    have R4 := hide (R3.out.below bb.out)
    clear R3
    have Q4 := hide (Q3.out.below bb.out)
    clear Q3
    have X3 := hide (X2.out.below bb.out)
    clear X2
    clear bb
    clear hb
    go_wp2_with fail
    refine (specGoodQuery_any _ q m _ _ HM.out Q4.out (by omega) HTQ.out gd HGD.out).mono ?_
    rintro e v6 ⟨rfl, hb⟩
    have bb := hide hb
    have B5 := hide (B4.out.trans (bb.out.mono B4.out.size))
    clear B4
    have R5 := hide (R4.out.below bb.out)
    clear R4
    have Q5 := hide (Q4.out.below bb.out)
    clear Q4
    have X4 := hide (X3.out.below bb.out)
    clear X3
    clear bb
    clear hb
    go_upto_if 69 with fail
    go_cut [] (fun wx => Below w.heap.size w wx)
    case first =>
      cases okE with
      | false =>
        go_wp2_with fail
        go_meet
        exact B5.out
      | true =>
        have hE := some_of HOKE.out HZE.out rfl
        rw [HRE.out] at hE
        obtain ⟨okt, gs, gq⟩ := evRes_ok hE
        have hn60 : n ≤ 60 := by have := gs.1; rw [HN.out] at this; exact this
        rw [HN.out] at okt
        have GE := hide (okT_good okt hn60)
        have hm20 : m ≤ 20 := by have := gq.1.2; rw [HM.out] at this; exact this
        by_cases h20 : m = 20
        · have hno : none = notRes q := by unfold notRes; rw [if_neg (fun h => h.2 (by rw [HM.out]; exact h20))]
          have c1 := fun (wx : World) (h2 : SlQ wx qa q) => implNotQuery_any qa q m qc wx HM.out h2 (by omega) HTQ.out none hno
          simp only [RetQ, Option.isSome_none, Option.getD_none, List.length_nil] at c1
          have CN := hide c1
          clear c1 hno hE okt gs gq h20
          go_wp2_with fail
          refine (CN.out _ Q5.out).mono ?_
          rintro e v7 ⟨vv, rfl, hoo, hb⟩
          obtain ⟨aN, cN, rfl, _, _⟩ := own_formQ (l := []) hoo
          have bb := hide hb
          have B6 := hide (B5.out.trans (bb.out.mono B5.out.size))
          clear B5
          have R6 := hide (R5.out.below bb.out)
          clear R5
          have Q6 := hide (Q5.out.below bb.out)
          clear Q5
          have X5 := hide (X4.out.below bb.out)
          clear X4
          clear bb
          clear hb hoo CN
          go_wp2_with fail
          refine (goodPosts_any _ zE nE _ _ HNE.out X5.out.sl (by omega) true (iff_of_true rfl GE.out)).mono ?_
          rintro e v8 ⟨rfl, rfl⟩
          go_wp2_with fail
          go_meet
          exact B6.out
        · have hl20 : q.length ≠ 20 := by rw [HM.out]; exact h20
          have hyes : some (notQ q) = notRes q := by unfold notRes; rw [if_pos ⟨gq, hl20⟩]
          have hev := evRes_not gs gq hl20
          rw [hE, Option.getD_some, HN.out] at hev
          obtain ⟨zO, hzO⟩ : ∃ z, z = those zE false (allN n) := ⟨_, rfl⟩
          rw [← hzO] at hev
          have okO : OkT n zO := by rw [hzO]; exact okT_those (okT_all n)
          have hadd := those_two okt
          rw [← hzO] at hadd
          have hmt : some [] = meetRes true zE zO := by rw [meet_of GE.out (okT_good okO hn60), hzO, meet_not]
          have gN := good_not gq hl20
          obtain ⟨q2, hq2⟩ : ∃ q2, q2 = notQ q := ⟨_, rfl⟩
          have htx := tx_not HTQ.out
          rw [← hq2] at hyes hev gN htx
          have hm2 : q2.length = m + 1 := by rw [hq2, ← HM.out]; simp [notQ]
          obtain ⟨nO, hnO⟩ : ∃ k, k = zO.length := ⟨_, rfl⟩
          rw [← hnO, HNE.out] at hadd
          have hadI : (nE : Int) + (nO : Int) = (n : Int) := by omega
          have c1 := fun (wx : World) (h2 : SlQ wx qa q) => implNotQuery_any qa q m qc wx HM.out h2 (by omega) HTQ.out _ hyes
          simp only [RetQ, Option.isSome_some, Option.getD_some, hm2] at c1
          have c2 := fun (wx : World) (a2 : Option Addr) (k2 : Nat) (h1 : SlS wx sa ls) (h2 : SlQ wx a2 q2) => implEval_any sa ls n sc a2 q2 (m + 1) k2 wx HN.out h1 (by omega) HTS.out.1 HTS.out.2 hm2 h2 (by omega) htx _ hev.symm
          simp only [RetL, Option.isSome_some, Option.getD_some, ← hnO] at c2
          have c3 := fun (wx : World) (a2 : Option Addr) (k2 : Nat) (h1 : SlC wx aX nE cX zE) (h2 : SlC wx a2 nO k2 zO) => implMeetPosts_any aX zE nE cX a2 zO nO k2 wx HNE.out h1 (by omega) hnO.symm h2 (by omega) _ hmt
          simp only [RetL, Option.isSome_some, Option.getD_some, List.length_nil] at c3
          have c4 := fun (wx : World) (a2 : Option Addr) (k2 : Nat) (h2 : SlQ wx a2 q2) => goodQuery_any a2 q2 (m + 1) k2 wx hm2 h2 (by omega) htx true (iff_of_true rfl gN)
          have C1 := hide c1
          have C2 := hide c2
          have C3 := hide c3
          have C4 := hide c4
          have HA := hide hadI
          clear c1 c2 c3 c4 hE okt gs gq hl20 hyes hev hzO okO hadd hmt gN hq2 htx hm2 hnO hadI h20
          go_wp2_with fail
          refine (C1.out _ Q5.out).mono ?_
          rintro e v7 ⟨vv, rfl, hoo, hb⟩
          obtain ⟨aN, cN, rfl, ss, _⟩ := own_formQ hoo
          have bb := hide hb
          have B6 := hide (B5.out.trans (bb.out.mono B5.out.size))
          clear B5
          have R6 := hide (R5.out.below bb.out)
          clear R5
          have Q6 := hide (Q5.out.below bb.out)
          clear Q5
          have X5 := hide (X4.out.below bb.out)
          clear X4
          clear bb
          have T0 := hide ss
          clear hb hoo ss C1
          go_wp2_with fail
          refine (C2.out _ _ _ R6.out T0.out).mono ?_
          rintro e v8 ⟨vv, rfl, hoo, hb⟩
          obtain ⟨aO, cO, rfl, ss, _⟩ := own_formC hoo
          have bb := hide hb
          have B7 := hide (B6.out.trans (bb.out.mono B6.out.size))
          clear B6
          have R7 := hide (R6.out.below bb.out)
          clear R6
          have Q7 := hide (Q6.out.below bb.out)
          clear Q6
          have X6 := hide (X5.out.below bb.out)
          clear X5
          have T1 := hide (T0.out.below bb.out)
          clear T0
          clear bb
          have O0 := hide ss
          clear hb hoo ss C2
          go_wp2_with fail
          refine (C3.out _ _ _ X6.out O0.out).mono ?_
          rintro e v9 ⟨vv, rfl, hoo, hb⟩
          obtain ⟨aP, cP, rfl, ss, _⟩ := own_formC (xs := []) hoo
          have bb := hide hb
          have B8 := hide (B7.out.trans (bb.out.mono B7.out.size))
          clear B7
          have R8 := hide (R7.out.below bb.out)
          clear R7
          have Q8 := hide (Q7.out.below bb.out)
          clear Q7
          have X7 := hide (X6.out.below bb.out)
          clear X6
          have T2 := hide (T1.out.below bb.out)
          clear T1
          have O1 := hide (O0.out.below bb.out)
          clear O0
          clear bb
          clear hb hoo ss C3
          have hadI := HA.out
          go_wp2_with fail
          refine (C4.out _ _ _ T2.out).mono ?_
          rintro e v10 ⟨rfl, hb⟩
          have bb := hide hb
          have B9 := hide (B8.out.trans (bb.out.mono B8.out.size))
          clear B8
          have R9 := hide (R8.out.below bb.out)
          clear R8
          have Q9 := hide (Q8.out.below bb.out)
          clear Q8
          have X8 := hide (X7.out.below bb.out)
          clear X7
          have T3 := hide (T2.out.below bb.out)
          clear T2
          have O2 := hide (O1.out.below bb.out)
          clear O1
          clear bb
          clear hb C4
          go_wp2_with fail
          refine (goodPosts_any _ zE nE _ _ HNE.out X8.out.sl (by omega) true (iff_of_true rfl GE.out)).mono ?_
          rintro e v11 ⟨rfl, rfl⟩
          go_wp2_with fail
          go_meet
          exact B9.out
    case rest =>
      have B0 := hide hcut
      clear hcut CI CS HRE HZE HOKE HGD HTQ HTS HN HM HNE
      go_wp2_with fail
      refine (drawPostsOf_any a1 len1 cap1 _ (Slb.below S1.out B0.out) hl1).mono ?_
      rintro e x1 ⟨rv, s, t, rfl, hst, hso, hb⟩
      obtain ⟨lt, ta, tn, tc, rfl, hn, hn61, hsm, hss⟩ := ownS_slS hso
      have bb := hide hb
      have B1 := hide (B0.out.trans (bb.out.mono B0.out.size))
      clear B0
      clear bb
      have R0 := hide hss
      have HN := hide hn
      have HTS := hide (small_tx hsm)
      have hlenP := postsRes_len lt (s, t)
      obtain ⟨rP, hrP⟩ : ∃ r, r = postsRes lt (s, t) := ⟨_, rfl⟩
      have c1 := fun (wx : World) (h1 : SlS wx ta lt) => implPostsOf_any ta lt tn tc s t wx HN.out h1 (by omega) HTS.out.1 HTS.out.2 (by omega) (by omega) rP hrP
      have c2 := fun (wx : World) (h1 : SlS wx ta lt) => specPostsOf_any ta lt tn tc s t wx HN.out h1 (by omega) HTS.out.1 HTS.out.2 (by omega) (by omega) rP hrP
      have c3 := fun (wx : World) (b2 : Option Addr) (k2 : Nat) (h1 : SlS wx ta lt) (h2 : SlQ wx b2 [⟨2, s, t, 0, 0⟩]) => implEval_any ta lt tn tc b2 [⟨2, s, t, 0, 0⟩] 1 k2 wx HN.out h1 (by omega) HTS.out.1 HTS.out.2 rfl h2 (by omega) (fun j hj => by
        obtain rfl : j = 0 := by simp at hj; omega
        show s.size ≤ _ ∧ t.size ≤ _
        omega) rP (hrP.trans (evRes_has lt (s, t)).symm)
      obtain ⟨zP, hzP⟩ : ∃ zs, zs = rP.getD [] := ⟨_, rfl⟩
      obtain ⟨nP, hnP⟩ : ∃ k, k = zP.length := ⟨_, rfl⟩
      obtain ⟨okP, hokP⟩ : ∃ b, b = rP.isSome := ⟨_, rfl⟩
      simp only [RetL, ← hzP, ← hnP, ← hokP] at c1 c2 c3
      rw [← hrP, ← hzP, ← hnP] at hlenP
      have CI := hide c1
      have CS := hide c2
      have CE := hide c3
      have HNP := hide hnP.symm
      clear c1 c2 c3 hrP hzP hnP hokP hn hsm hso hb hss
      have hal : Below x1.heap.size x1 (x1.alloc (.cells #[.string s, .string t] 44)) := (Below.refl _ _).alloc (Nat.le_refl _) _
      have bb := hide hal
      have B2 := hide (B1.out.trans (bb.out.mono B1.out.size))
      clear B1
      have R1 := hide (R0.out.below bb.out)
      clear R0
      clear bb
      have L0 := hide (atL_new x1 s t 44)
      clear hal
      go_wp2_with fail
      refine (CI.out _ R1.out).mono ?_
      rintro e y1 ⟨vv, rfl, hoo, hb⟩
      obtain ⟨aX, cX, rfl, ss, _⟩ := own_formC hoo
      have bb := hide hb
      have B3 := hide (B2.out.trans (bb.out.mono B2.out.size))
      clear B2
      have R2 := hide (R1.out.below bb.out)
      clear R1
      have L1 := hide (L0.out.below bb.out)
      clear L0
      clear bb
      have X0 := hide ss
      clear hb hoo ss
      obtain ⟨l0, l1⟩ := L1.out
      go_wp2_with fail
      clear l0 l1
      refine (CS.out _ R2.out).mono ?_
      rintro e y2 ⟨vv, rfl, hoo, hb⟩
      obtain ⟨aY, cY, rfl, ss, _⟩ := own_formC hoo
      have bb := hide hb
      have B4 := hide (B3.out.trans (bb.out.mono B3.out.size))
      clear B3
      have R3 := hide (R2.out.below bb.out)
      clear R2
      have L2 := hide (L1.out.below bb.out)
      clear L1
      have X1 := hide (X0.out.below bb.out)
      clear X0
      clear bb
      have Y0 := hide ss
      clear hb hoo ss
      go_wp2_with fail
      refine (drawNot_any a1 len1 cap1 _ (Slb.below S1.out B4.out) hl1).mono ?_
      rintro e y3 ⟨pv, rfl, hqo, hb⟩
      obtain ⟨q, qa, m, qc, rfl, hm, hm21, hqt, hqs⟩ := own_q hqo
      have bb := hide hb
      have B5 := hide (B4.out.trans (bb.out.mono B4.out.size))
      clear B4
      have R4 := hide (R3.out.below bb.out)
      clear R3
      have L3 := hide (L2.out.below bb.out)
      clear L2
      have X2 := hide (X1.out.below bb.out)
      clear X1
      have Y1 := hide (Y0.out.below bb.out)
      clear Y0
      clear bb
      have Q0 := hide hqs
      have HM := hide hm
      have HTQ := hide hqt
      obtain ⟨rN, hrN⟩ : ∃ r, r = notRes q := ⟨_, rfl⟩
      have hlN : (rN.getD []).length ≤ 100 := by
        rw [hrN]
        unfold notRes
        split
        · simp [notQ]; omega
        · simp
      have c1 := fun (wx : World) (h1 : SlQ wx qa q) => implNotQuery_any qa q m qc wx HM.out h1 (by omega) HTQ.out rN hrN
      have c2 := fun (wx : World) (h1 : SlQ wx qa q) => specNotQuery_any qa q m qc wx HM.out h1 (by omega) HTQ.out rN hrN
      obtain ⟨zN, hzN⟩ : ∃ zs, zs = rN.getD [] := ⟨_, rfl⟩
      obtain ⟨nN, hnN⟩ : ∃ k, k = zN.length := ⟨_, rfl⟩
      obtain ⟨okN, hokN⟩ : ∃ b, b = rN.isSome := ⟨_, rfl⟩
      simp only [RetQ, ← hzN, ← hnN, ← hokN] at c1 c2
      rw [← hzN, ← hnN] at hlN
      have C1 := hide c1
      have C2 := hide c2
      have HNN := hide hnN.symm
      clear c1 c2 hrN hzN hnN hokN hm hqt hqo hb hqs
      go_wp2_with fail
      refine (C1.out _ Q0.out).mono ?_
      rintro e y4 ⟨vv, rfl, hoo, hb⟩
      obtain ⟨aT, cT, rfl, ss, _⟩ := own_formQ hoo
      have bb := hide hb
      have B6 := hide (B5.out.trans (bb.out.mono B5.out.size))
      clear B5
      have R5 := hide (R4.out.below bb.out)
      clear R4
      have L4 := hide (L3.out.below bb.out)
      clear L3
      have X3 := hide (X2.out.below bb.out)
      clear X2
      have Y2 := hide (Y1.out.below bb.out)
      clear Y1
      have Q1 := hide (Q0.out.below bb.out)
      clear Q0
      clear bb
      have T0 := hide ss
      clear hb hoo ss
      go_wp2_with fail
      refine (C2.out _ Q1.out).mono ?_
      rintro e y5 ⟨vv, rfl, hoo, hb⟩
      obtain ⟨aU, cU, rfl, ss, _⟩ := own_formQ hoo
      have bb := hide hb
      have B7 := hide (B6.out.trans (bb.out.mono B6.out.size))
      clear B6
      have R6 := hide (R5.out.below bb.out)
      clear R5
      have L5 := hide (L4.out.below bb.out)
      clear L4
      have X4 := hide (X3.out.below bb.out)
      clear X3
      have Y3 := hide (Y2.out.below bb.out)
      clear Y2
      have Q2 := hide (Q1.out.below bb.out)
      clear Q1
      have T1 := hide (T0.out.below bb.out)
      clear T0
      clear bb
      have U0 := hide ss
      clear hb hoo ss
      go_wp2_with fail
      refine (sameInts_any _ _ zP nP _ _ _ HNP.out X4.out.sl Y3.out.sl (by omega)).mono ?_
      rintro e v11 ⟨rfl, hb⟩
      have bb := hide hb
      have B8 := hide (B7.out.trans (bb.out.mono B7.out.size))
      clear B7
      have R7 := hide (R6.out.below bb.out)
      clear R6
      have L6 := hide (L5.out.below bb.out)
      clear L5
      have X5 := hide (X4.out.below bb.out)
      clear X4
      clear Y3
      have Q3 := hide (Q2.out.below bb.out)
      clear Q2
      have T2 := hide (T1.out.below bb.out)
      clear T1
      have U1 := hide (U0.out.below bb.out)
      clear U0
      clear bb
      clear hb
      go_wp2_with fail
      refine (sameQuery_any _ _ zN nN _ _ _ HNN.out T2.out U1.out (by omega)).mono ?_
      rintro e y6 ⟨rfl, hb⟩
      have bb := hide hb
      have B9 := hide (B8.out.trans (bb.out.mono B8.out.size))
      clear B8
      have R8 := hide (R7.out.below bb.out)
      clear R7
      have L7 := hide (L6.out.below bb.out)
      clear L6
      have X6 := hide (X5.out.below bb.out)
      clear X5
      clear Q3
      clear T2
      clear U1
      clear bb
      clear hb
      cases okP with
      | false =>
        go_wp2_with fail
        go_ret
        exact ⟨rfl, B9.out⟩
      | true =>
        obtain ⟨l0, l1⟩ := L7.out
        have hlit := own_slQ (own_lit y6 ⟨2, s, t, 0, 0⟩)
        have HL := hide hlit
        clear hlit
        have hal : Below y6.heap.size y6 (y6.alloc (.cells #[.int .i64 2, .string s, .string t, .int .i64 0, .int .i64 0] 51)) := (Below.refl _ _).alloc (Nat.le_refl _) _
        have bb := hide hal
        have B10 := hide (B9.out.trans (bb.out.mono B9.out.size))
        clear B9
        have R9 := hide (R8.out.below bb.out)
        clear R8
        clear L7
        have X7 := hide (X6.out.below bb.out)
        clear X6
        clear bb
        clear hal
        go_wp2_with fail
        refine (CE.out _ _ _ R9.out HL.out).mono ?_
        rintro e y7 ⟨vv, rfl, hoo, hb⟩
        obtain ⟨aZ, cZ, rfl, ss, _⟩ := own_formC hoo
        clear l0 l1
        have bb := hide hb
        have B11 := hide (B10.out.trans (bb.out.mono B10.out.size))
        clear B10
        have R10 := hide (R9.out.below bb.out)
        clear R9
        have X8 := hide (X7.out.below bb.out)
        clear X7
        clear bb
        have Z0 := hide ss
        clear hb hoo ss
        go_wp2_with fail
        refine (sameInts_any _ _ zP nP _ _ _ HNP.out Z0.out.sl X8.out.sl (by omega)).mono ?_
        rintro e v12 ⟨rfl, hb⟩
        have bb := hide hb
        have B12 := hide (B11.out.trans (bb.out.mono B11.out.size))
        clear B11
        have R11 := hide (R10.out.below bb.out)
        clear R10
        have X9 := hide (X8.out.below bb.out)
        clear X8
        have Z1 := hide (Z0.out.below bb.out)
        clear Z0
        clear bb
        clear hb
        go_wp2_with fail
        go_ret
        exact ⟨rfl, B12.out⟩
end Go.Proofs.Ythicdnkngpiccab.fnQueries
