/-
  Contracts: the draw of series.
-/
import Derived.Test.YthicdnkngpiccabL4DrawX
import Derived.Test.YthicdnkngpiccabL4Eval
namespace Go.Proofs.Ythicdnkngpiccab.L4
open Go.RowKit L1 L3
set_option linter.unusedVariables false

/-- Labels that the caller owns, and what is known of their row. -/
def InnL (w : World) (B : Nat) (v : Value) (ls : List (List Lb)) (vs : List Value) : Prop := ∀ i, i < ls.length → ∃ ai ci, vs[i]? = some (.slice ai (ls.getD i []).length ci) ∧ w.ownsRow B 44 2 (.slice ai (ls.getD i []).length ci) (ls.getD i []).length (flatL (ls.getD i [])) ∧ Apart (.slice ai (ls.getD i []).length ci) v
/-- Small labels. -/
def Small (ls : List (List Lb)) : Prop := ∀ i, i < ls.length → (ls.getD i []).length ≤ 7 ∧ ∀ p ∈ ls.getD i [], p.1.size ≤ 20 ∧ p.2.size ≤ 20
/-- Series that the caller owns. -/
def OwnS (w : World) (B : Nat) (v : Value) (m : Nat) : Prop := ∃ (ls : List (List Lb)) (vs : List Value), ls.length ≤ m ∧ Small ls ∧ w.ownsRow B 85 1 v ls.length vs ∧ InnL w B v ls vs
theorem InnL.below {w w' : World} {B : Nat} {v : Value} {ls : List (List Lb)} {vs : List Value} (h : InnL w B v ls vs) (hb : Below w.heap.size w w') : InnL w' B v ls vs := fun i hi => by
  obtain ⟨ai, ci, h1, h2, h3⟩ := h i hi
  exact ⟨ai, ci, h1, own_belowT h2 hb, h3⟩
theorem InnL.grown {w w' : World} {B b : Nat} {v : Value} {ls : List (List Lb)} {vs : List Value} (h : InnL w B v ls vs) (hg : w.grownBy w' (some b)) (hb : b < B) : InnL w' B v ls vs := fun i hi => by
  obtain ⟨ai, ci, h1, h2, h3⟩ := h i hi
  exact ⟨ai, ci, h1, own_grown4 h2 hg hb, h3⟩
theorem OwnS.grown {w w' : World} {B b m : Nat} {v : Value} (h : OwnS w B v m) (hg : w.grownBy w' (some b)) (hb : b < B) : OwnS w' B v m := by
  obtain ⟨ls, vs, h1, h2, h3, h4⟩ := h
  exact ⟨ls, vs, h1, h2, own_grown4 h3 hg hb, h4.grown hg hb⟩
theorem OwnS.below {w w' : World} {B m : Nat} {v : Value} (h : OwnS w B v m) (hb : Below w.heap.size w w') : OwnS w' B v m := by
  obtain ⟨ls, vs, h1, h2, h3, h4⟩ := h
  exact ⟨ls, vs, h1, h2, own_belowT h3 hb, h4.below hb⟩
theorem getD_snocS (ls : List (List Lb)) (t : List Lb) (i : Nat) (hi : i < ls.length) : (ls ++ [t]).getD i [] = ls.getD i [] := by
  simp [List.getD, List.getElem?_append_left hi]
theorem getD_lastS (ls : List (List Lb)) (t : List Lb) : (ls ++ [t]).getD ls.length [] = t := by simp [List.getD]
theorem innL_snoc {w5 w6 : World} {B : Nat} {v v6 : Value} {ls : List (List Lb)} {t : List Lb} {vs : List Value} {a5 : Option Addr} {c5 m : Nat} {o : Obj} (hm : t.length = m) (hvs : vs.length = ls.length) (hi : InnL w5 B v ls vs)
    (hx : w5.ownsRow B 44 2 (.slice a5 m c5) m (flatL t)) (hxn : Apart (.slice a5 m c5) v) (hg : (w5.alloc o).grownBy w6 v.ownBlock) (hat : v6.ownBlock = v.ownBlock ∨ v6.ownBlock = some (w5.alloc o).heap.size) :
    InnL w6 B v6 (ls ++ [t]) (vs ++ [.slice a5 m c5]) := by
  have ap : ∀ {u : Value} {n : Nat} {xs : List Value}, w5.ownsRow B 44 2 u n xs → Apart u v → Apart u v6 := fun {u n xs} h h0 => by
    rcases h0 with h0 | h0
    · exact .inl h0
    · by_cases hn : u.ownBlock = none
      · exact .inl hn
      · refine .inr ?_
        rcases hat with e | e
        · rw [e]; exact h0
        · rw [e]
          intro q
          have := (h.lt _ q).2
          simp at this
          omega
  intro i hlt
  by_cases hil : i < ls.length
  · obtain ⟨ai, ci, h1, h2, h3⟩ := hi i hil
    rw [getD_snocS ls t i hil]
    exact ⟨ai, ci, by rw [List.getElem?_append_left (by omega)]; exact h1, (h2.alloc o).kept hg h3, ap h2 h3⟩
  · obtain rfl : i = ls.length := by simp at hlt; omega
    rw [getD_lastS, hm]
    exact ⟨a5, c5, by rw [← hvs]; simp, (hx.alloc o).kept hg hxn, ap hx hxn⟩
theorem small_snoc {ls : List (List Lb)} {t : List Lb} (h : Small ls) (h1 : t.length ≤ 7) (h2 : ∀ p ∈ t, p.1.size ≤ 20 ∧ p.2.size ≤ 20) : Small (ls ++ [t]) := fun i hi => by
  by_cases hil : i < ls.length
  · rw [getD_snocS ls t i hil]; exact h i hil
  · obtain rfl : i = ls.length := by simp at hi; omega
    rw [getD_lastS]; exact ⟨h1, h2⟩
/-- Owned series are series. -/
theorem ownS_slS {w : World} {B m : Nat} {v : Value} (h : OwnS w B v m) : ∃ (ls : List (List Lb)) (a : Option Addr) (n cap : Nat), v = .slice a n cap ∧ ls.length = n ∧ n ≤ m ∧ Small ls ∧ SlS w a ls := by
  obtain ⟨ls, vs, h1, h2, h3, h4⟩ := h
  obtain ⟨oa, ocap, rfl⟩ := own_shapeT h3
  refine ⟨ls, oa, _, ocap, rfl, rfl, h1, h2, fun i hi => ?_⟩
  obtain ⟨ai, ci, k1, k2, _⟩ := h4 i hi
  rcases h3.2 with ⟨hv, h0⟩ | ⟨g, cap', cur, hv, _⟩
  · omega
  · cases hv
    have hc := h3.cells (g := g) rfl i _ k1
    rw [addr_add] at hc
    exact ⟨g, 0, rfl, ai, ci, by simpa using hc, own_slL k2⟩
theorem info_ls : (Try.prog.info? 85).map (fun i => (i.zero, i.size, i.bytes)) = some (some (.slice none 0 0), 1, 24) := by kernel_rfl

set_option maxRecDepth 100000 in
set_option maxHeartbeats 8000000 in
theorem series_any (b N : Nat) (w : World) (h : Cur w b N) (hN : N ≤ 10000000) :
    Calls Try.prog 40 #[.pointer (some ⟨b, 0, none⟩)] w fun e w' => ∃ v, e = .returned v ∧ OwnS w' w.heap.size v 61 ∧ Cur w' b (N + 5000) ∧ w.grownBy w' (some b) := by
  obtain ⟨i1, hi1, hy0, hy1, hy2⟩ := info_parts info_ls
  have hbw := h.lt
  have HC := hide h
  clear h
  go_enter Try.func40, Try.ntmps40
  go_wp2_with fail
  refine (pick_any b N 7 _ HC.out (by omega) (by omega) (by omega)).mono ?_
  rintro e w1 ⟨o0, rfl, ho0, _, ho5, hc1, hg1⟩
  have ho5' := ho5 (by omega)
  obtain ⟨k0, rfl⟩ : ∃ k0 : Nat, o0 = (k0 : Int) := ⟨o0.toNat, by omega⟩
  have C1 := hide hc1
  have G1 := hide hg1
  clear hc1 hg1 ho5 ho0
  go_wp2_with fail
  refine (one_any b _ 30 _ C1.out (by omega) (by omega) (by omega)).mono ?_
  rintro e w2 ⟨t, rfl, hc2, hg2⟩
  have C2 := hide hc2
  have G2 := hide (grown_trans G1.out hg2)
  clear hc2 hg2
  cases t with
  | true =>
    go_wp2_with fail
    refine (pick_any b _ 2 _ C2.out (by omega) (by omega) (by omega)).mono ?_
    rintro e w3 ⟨o1, rfl, ho1, _, ho6, hc3, hg3⟩
    have ho6' := ho6 (by omega)
    obtain ⟨k1, rfl⟩ : ∃ k1 : Nat, o1 = (k1 : Int) := ⟨o1.toNat, by omega⟩
    obtain ⟨kk, hkk⟩ : ∃ kk : Nat, kk = 60 + k1 := ⟨_, rfl⟩
    have hki : 60 + (k1 : Int) = (kk : Int) := by omega
    have HKI := hide hki
    have h59 : 0 ≤ (k1 : Int) ∧ (k1 : Int) < 2 := by omega
    have hk61 : kk ≤ 61 := by omega
    have C3 := hide hc3
    have G3 := hide (grown_trans G2.out hg3)
    clear hc3 hg3 ho6 ho1 hki hkk
    go_wp2
    go_loopw [3, 4] (fun lv nv wr => ∃ k : Nat, k ≤ 61 ∧ nv = .int .i64 k ∧ OwnS wr w.heap.size lv (61 - k) ∧ Cur wr b (N + 6 + 60 * (61 - k)) ∧ w.grownBy wr (some b)) (fun _ nv _ => (intOf nv).toNat)
    case atStart => exact ⟨kk, hk61, by rw [HKI.out], ⟨[], [], by simp, fun i hi => by simp at hi, World.ownsRow_nil _ _ _ _, fun i hi => by simp at hi⟩, C3.out.mono (by omega), G3.out⟩
    case round =>
      obtain ⟨k, hk, rfl, hP, hC, hG⟩ := hrel
      obtain ⟨ls, vs, hll, hsm, hrow, hin⟩ := hP
      obtain ⟨n, hn⟩ : ∃ n, n = ls.length := ⟨_, rfl⟩
      rw [← hn] at hll hrow
      have hsz := hG.size
      by_cases hk0 : 0 < (k : Int)
      · obtain ⟨oa, ocap, rfl⟩ := own_shapeT hrow
        have hvl : vs.length = n := by have := hrow.1; omega
        have HOB : Hid (∀ g, (Value.slice oa n ocap).ownBlock = some g → g < wr.heap.size) := fun g hg => (hrow.lt g hg).2
        have HN := hide hn.symm
        have HVL := hide hvl
        have HROW := hide hrow
        have HIN := hide hin
        have HSM := hide hsm
        have HCC := hide hC
        have HG := hide hG
        clear hn hrow hin hsm hC hG hvl
        go_wp2_with fail
        refine (labels_any b _ _ HCC.out (by omega)).mono ?_
        rintro e w5 ⟨v5, rfl, ⟨t, ht7, htp, ho5⟩, hc5, hg5⟩
        obtain ⟨m, hmm⟩ : ∃ m, m = t.length := ⟨_, rfl⟩
        rw [← hmm] at ho5 ht7
        obtain ⟨a5, c5, rfl⟩ := own_shapeT ho5
        have HAP : Hid (Apart (.slice a5 m c5) (.slice oa n ocap)) := hide (apart_new (ys := []) (b2 := 0) (n2 := 0) (c2 := 0) (e2 := 0) ho5 (fun g hg => HOB.out g hg))
        have HROW5 := hide (own_grown4 HROW.out hg5 hbw)
        have HIN5 := hide (HIN.out.grown hg5 hbw)
        have HX5 := hide (own_baseT ho5 hsz)
        have G5 := hide (grown_trans HG.out hg5)
        have hsz5 := G5.out.size
        have C5 := hide hc5
        have HMM := hide hmm.symm
        have HTP := hide htp
        clear ho5 hc5 hg5 HROW HIN HG HCC hmm htp
        go_wp2_with (first
          | (at_builtin; refine wpList_append_own_at _ rfl _ _ 35 rfl w.heap.size 85 i1 (.slice none 0 0) 1 24 Try.underlying35 hi1 hy0 hy1 hy2 rfl (by decide) _ _ _ rfl (HROW5.out.alloc _) ⟨w5.heap.size, 0, none⟩ 1 1 [.slice a5 m c5] rfl rfl (cell_one_new _ _ _) (by intro u hu; simp at hu; subst hu; rfl) (by unfold maxLen; omega) (by omega) (by simp; omega) ?_)
          | go_in)
        intro v6 w6 hown6 hgrow6 _ hat6
        have hb6 : Below w.heap.size w5 w6 := ((Below.refl _ _).alloc hsz5 _).grown hgrow6 (by simp; omega) (fun g hg => (HROW5.out.lt g hg).1)
        have T6 : Hid (OwnS w6 w.heap.size v6 (61 - (k - 1))) := by
          refine hide ⟨ls ++ [t], vs ++ [.slice a5 m c5], by simp; have := HN.out; omega, small_snoc HSM.out (by rw [HMM.out]; exact ht7) HTP.out, ?_, innL_snoc HMM.out (by rw [HVL.out, HN.out]) HIN5.out HX5.out HAP.out hgrow6 (by simpa using hat6)⟩
          rw [List.length_append, HN.out]
          exact hown6
        have C6 := hide (C5.out.kept (fun i hi => hb6.block i (by omega)))
        have G6 := hide (grown_low G5.out hb6)
        clear hown6 hgrow6 hat6 hb6
        go_wp2
        go_roundw
        case rel => exact ⟨k - 1, by omega, by congr 1; omega, T6.out, C6.out.mono (by omega), G6.out⟩
        case measure => simp [intOf]; omega
      · have HO : Hid (OwnS wr w.heap.size u3 61) := hide ⟨ls, vs, by omega, hsm, by rw [← hn]; exact hrow, hin⟩
        have HCC := hide hC
        have HG := hide hG
        clear hn hrow hin hsm hC hG
        go_wp2
        go_ret
        exact ⟨_, rfl, HO.out, HCC.out.mono (by omega), HG.out⟩
  | false =>
    go_wp2
    go_loopw [3, 4] (fun lv nv wr => ∃ k : Nat, k ≤ 61 ∧ nv = .int .i64 k ∧ OwnS wr w.heap.size lv (61 - k) ∧ Cur wr b (N + 6 + 60 * (61 - k)) ∧ w.grownBy wr (some b)) (fun _ nv _ => (intOf nv).toNat)
    case atStart => exact ⟨k0, by omega, rfl, ⟨[], [], by simp, fun i hi => by simp at hi, World.ownsRow_nil _ _ _ _, fun i hi => by simp at hi⟩, C2.out.mono (by omega), G2.out⟩
    case round =>
      obtain ⟨k, hk, rfl, hP, hC, hG⟩ := hrel
      obtain ⟨ls, vs, hll, hsm, hrow, hin⟩ := hP
      obtain ⟨n, hn⟩ : ∃ n, n = ls.length := ⟨_, rfl⟩
      rw [← hn] at hll hrow
      have hsz := hG.size
      by_cases hk0 : 0 < (k : Int)
      · obtain ⟨oa, ocap, rfl⟩ := own_shapeT hrow
        have hvl : vs.length = n := by have := hrow.1; omega
        have HOB : Hid (∀ g, (Value.slice oa n ocap).ownBlock = some g → g < wr.heap.size) := fun g hg => (hrow.lt g hg).2
        have HN := hide hn.symm
        have HVL := hide hvl
        have HROW := hide hrow
        have HIN := hide hin
        have HSM := hide hsm
        have HCC := hide hC
        have HG := hide hG
        clear hn hrow hin hsm hC hG hvl
        go_wp2_with fail
        refine (labels_any b _ _ HCC.out (by omega)).mono ?_
        rintro e w5 ⟨v5, rfl, ⟨t, ht7, htp, ho5⟩, hc5, hg5⟩
        obtain ⟨m, hmm⟩ : ∃ m, m = t.length := ⟨_, rfl⟩
        rw [← hmm] at ho5 ht7
        obtain ⟨a5, c5, rfl⟩ := own_shapeT ho5
        have HAP : Hid (Apart (.slice a5 m c5) (.slice oa n ocap)) := hide (apart_new (ys := []) (b2 := 0) (n2 := 0) (c2 := 0) (e2 := 0) ho5 (fun g hg => HOB.out g hg))
        have HROW5 := hide (own_grown4 HROW.out hg5 hbw)
        have HIN5 := hide (HIN.out.grown hg5 hbw)
        have HX5 := hide (own_baseT ho5 hsz)
        have G5 := hide (grown_trans HG.out hg5)
        have hsz5 := G5.out.size
        have C5 := hide hc5
        have HMM := hide hmm.symm
        have HTP := hide htp
        clear ho5 hc5 hg5 HROW HIN HG HCC hmm htp
        go_wp2_with (first
          | (at_builtin; refine wpList_append_own_at _ rfl _ _ 35 rfl w.heap.size 85 i1 (.slice none 0 0) 1 24 Try.underlying35 hi1 hy0 hy1 hy2 rfl (by decide) _ _ _ rfl (HROW5.out.alloc _) ⟨w5.heap.size, 0, none⟩ 1 1 [.slice a5 m c5] rfl rfl (cell_one_new _ _ _) (by intro u hu; simp at hu; subst hu; rfl) (by unfold maxLen; omega) (by omega) (by simp; omega) ?_)
          | go_in)
        intro v6 w6 hown6 hgrow6 _ hat6
        have hb6 : Below w.heap.size w5 w6 := ((Below.refl _ _).alloc hsz5 _).grown hgrow6 (by simp; omega) (fun g hg => (HROW5.out.lt g hg).1)
        have T6 : Hid (OwnS w6 w.heap.size v6 (61 - (k - 1))) := by
          refine hide ⟨ls ++ [t], vs ++ [.slice a5 m c5], by simp; have := HN.out; omega, small_snoc HSM.out (by rw [HMM.out]; exact ht7) HTP.out, ?_, innL_snoc HMM.out (by rw [HVL.out, HN.out]) HIN5.out HX5.out HAP.out hgrow6 (by simpa using hat6)⟩
          rw [List.length_append, HN.out]
          exact hown6
        have C6 := hide (C5.out.kept (fun i hi => hb6.block i (by omega)))
        have G6 := hide (grown_low G5.out hb6)
        clear hown6 hgrow6 hat6 hb6
        go_wp2
        go_roundw
        case rel => exact ⟨k - 1, by omega, by congr 1; omega, T6.out, C6.out.mono (by omega), G6.out⟩
        case measure => simp [intOf]; omega
      · have HO : Hid (OwnS wr w.heap.size u3 61) := hide ⟨ls, vs, by omega, hsm, by rw [← hn]; exact hrow, hin⟩
        have HCC := hide hC
        have HG := hide hG
        clear hn hrow hin hsm hC hG
        go_wp2
        go_ret
        exact ⟨_, rfl, HO.out, HCC.out.mono (by omega), HG.out⟩

end Go.Proofs.Ythicdnkngpiccab.L4
