/-
  Contract: impl.EvalQuery: the numbers of series that a query tells, in new memory.
-/
import Derived.Test.YthicdnkngpiccabL4Tell
namespace Go.Proofs.Ythicdnkngpiccab.L4
open Go.RowKit L1 L3
set_option linter.unusedVariables false

/-- Two owned values have no block in common. -/
def Apart (u v : Value) : Prop := u.ownBlock = none ∨ u.ownBlock ≠ v.ownBlock
/-- Lists of ints that the caller owns, and what is known of their row. -/
def Inn (w : World) (B : Nat) (v : Value) (ts : List (List Int)) (vs : List Value) : Prop := ∀ i, i < ts.length → ∃ ai ci, vs[i]? = some (.slice ai (ts.getD i []).length ci) ∧ w.ownsRow B 3 1 (.slice ai (ts.getD i []).length ci) (ts.getD i []).length ((ts.getD i []).map (Value.int .i64)) ∧ Apart (.slice ai (ts.getD i []).length ci) v
/-- Lists of ints that the caller owns, in a row that it owns. -/
def Told (w : World) (B : Nat) (E : TypeId) (v : Value) (ts : List (List Int)) : Prop := ∃ vs : List Value, w.ownsRow B E 1 v ts.length vs ∧ Inn w B v ts vs
theorem Inn.below {w w' : World} {B : Nat} {v : Value} {ts : List (List Int)} {vs : List Value} (h : Inn w B v ts vs) (hb : Below w.heap.size w w') : Inn w' B v ts vs := fun i hi => by
  obtain ⟨ai, ci, h1, h2, h3⟩ := h i hi
  exact ⟨ai, ci, h1, own_belowT h2 hb, h3⟩
theorem told_tl {w : World} {B : Nat} {E : TypeId} {a : Option Addr} {n cap : Nat} {ts : List (List Int)} {vs : List Value} (h : w.ownsRow B E 1 (.slice a n cap) n vs) (hi : Inn w B (.slice a n cap) ts vs) : Tl w a ts := fun i hlt => by
  obtain ⟨ai, ci, h1, h2, _⟩ := hi i hlt
  rcases h.2 with ⟨hv, h0⟩ | ⟨g, cap', cur, hv, _⟩
  · have hl := h.1
    have : i < vs.length := by
      by_cases hiv : i < vs.length
      · exact hiv
      · rw [List.getElem?_eq_none (by omega)] at h1; cases h1
    omega
  · cases hv
    have hc := h.cells (g := g) rfl i _ h1
    rw [addr_add] at hc
    exact ⟨g, 0, rfl, ai, ci, by simpa using hc, own_slC h2⟩
theorem getD_snoc (ts : List (List Int)) (t : List Int) (i : Nat) (hi : i < ts.length) : (ts ++ [t]).getD i [] = ts.getD i [] := by
  simp [List.getD, List.getElem?_append_left hi]
theorem getD_last (ts : List (List Int)) (t : List Int) : (ts ++ [t]).getD ts.length [] = t := by simp [List.getD]
/-- One list more. -/
theorem inn_snoc {w5 w6 : World} {B : Nat} {v v6 : Value} {ts : List (List Int)} {t : List Int} {vs : List Value} {a5 : Option Addr} {c5 m : Nat} {o : Obj} (hm : t.length = m) (hvs : vs.length = ts.length) (hi : Inn w5 B v ts vs)
    (hx : w5.ownsRow B 3 1 (.slice a5 m c5) m (t.map (Value.int .i64))) (hxn : Apart (.slice a5 m c5) v) (hg : (w5.alloc o).grownBy w6 v.ownBlock) (hat : v6.ownBlock = v.ownBlock ∨ v6.ownBlock = some (w5.alloc o).heap.size) :
    Inn w6 B v6 (ts ++ [t]) (vs ++ [.slice a5 m c5]) := by
  have ap : ∀ {u : Value} {n : Nat} {xs : List Value}, w5.ownsRow B 3 1 u n xs → Apart u v → Apart u v6 := fun {u n xs} h h0 => by
    rcases h0 with h0 | h0
    · exact .inl h0
    · by_cases hn : u.ownBlock = none
      · exact .inl hn
      · refine .inr ?_
        rcases hat with e | e
        · rw [e]; exact h0
        · rw [e]
          intro q
          have := (h.lt _ q).2
          simp at this
          omega
  intro i hlt
  by_cases hil : i < ts.length
  · obtain ⟨ai, ci, h1, h2, h3⟩ := hi i hil
    rw [getD_snoc ts t i hil]
    exact ⟨ai, ci, by rw [List.getElem?_append_left (by omega)]; exact h1, (h2.alloc o).kept hg h3, ap h2 h3⟩
  · obtain rfl : i = ts.length := by simp at hlt; omega
    rw [getD_last, hm]
    exact ⟨a5, c5, by rw [← hvs]; simp, (hx.alloc o).kept hg hxn, ap hx hxn⟩
theorem apart_new {w : World} {base n c : Nat} {e : TypeId} {u v : Value} {xs ys : List Value} {b2 n2 c2 : Nat} {e2 : TypeId} (h : w.ownsRow base e c u n xs) (hv : ∀ g, v.ownBlock = some g → g < base) : Apart u v := by
  by_cases hn : u.ownBlock = none
  · exact .inl hn
  · obtain ⟨k, hk⟩ := Option.ne_none_iff_exists'.1 hn
    refine .inr ?_
    rw [hk]
    intro q
    have h1 := (h.lt k hk).1
    have h2 := hv k q.symm
    omega
theorem info_rs : (Try.prog.info? 57).map (fun i => (i.zero, i.size, i.bytes)) = some (some (.slice none 0 0), 1, 24) := by kernel_rfl

set_option maxRecDepth 100000 in
set_option maxHeartbeats 8000000 in
theorem implEval_any (a : Option Addr) (ls : List (List Lb)) (n cap : Nat) (b : Option Addr) (q : List Qr) (n2 cap2 : Nat) (w : World) (hn : ls.length = n) (hs : SlS w a ls) (hn2 : n ≤ 1048576) (hst : TxS ls) (hls : ∀ i, i < ls.length → (ls.getD i []).length ≤ 1048576) (hm : q.length = n2) (hq : SlQ w b q) (hm2 : n2 ≤ 1048576) (hqt : TxQ q) (r : Option (List Int)) (hr : r = evRes ls q) :
    Calls Try.prog 19 #[.slice a n cap, .slice b n2 cap2] w fun e w' => RetL w r e w' := by
  by_cases hg : GoodS ls
  · have C1 := hide (goodSeries_any a ls n cap w hn hs hn2 hst hls true (iff_of_true rfl hg))
    by_cases hgq : GoodQ q
    · have C2 := hide (fun w hq => goodQuery_any b q n2 cap2 w hm hq hm2 hqt true (iff_of_true rfl hgq))
      have hr' : r = some ((ev ls q n2).getD (n2 - 1) []) := by rw [hr]; unfold evRes; rw [if_pos ⟨hg, hgq⟩, hm]
      obtain ⟨i1, hi1, hy0, hy1, hy2⟩ := info_parts info_rs
      have hn60 : n ≤ 60 := by have := hg.1; omega
      have hq1 := hgq.1
      rw [hm] at hq1
      have CT := hide (fun (p : Qr) (ta : Option Addr) (tn tcap : Nat) (ts : List (List Int)) (w : World) (hs : SlS w a ls) (htn : ts.length = tn) (ht : Tl w ta ts) (hok : ∀ t ∈ ts, OkT n t) (hp : okQ tn p) => tellPart_any a ls n cap p ta tn tcap ts w hn hs hn60 hls htn ht hok hp)
      have HR := hide hr'
      have HS := hide hs
      have HQ := hide hq
      have HM := hide hm
      have HGQ := hide hgq.2
      have HN := hide hn
      clear hr hr' hg hgq hn hs hst hls hm hq hqt
      go_enter Try.func19, Try.ntmps19
      go_wp2_with fail
      refine C1.out.mono ?_
      rintro e w1 ⟨rfl, hb1⟩
      have B1 := hide hb1
      clear hb1
      go_wp2_with fail
      refine (C2.out _ (HQ.out.below B1.out)).mono ?_
      rintro e w2 ⟨rfl, hb2⟩
      have B2 := hide (B1.out.trans (hb2.mono B1.out.size))
      clear hb2
      go_wp2
      go_loopw [6, 19] (fun ot i wr => ∃ k : Nat, k ≤ n2 ∧ i = .int .i64 k ∧ Told wr w.heap.size 57 ot (ev ls q k) ∧ Below w.heap.size w wr) (fun _ i _ => n2 - (intOf i).toNat)
      case atStart => exact ⟨0, Nat.zero_le _, rfl, ⟨[], World.ownsRow_nil _ _ _ _, fun i hi => by simp [ev] at hi⟩, B2.out⟩
      case round =>
        obtain ⟨k, hk, rfl, ⟨vs, hrow, hin⟩, hbel⟩ := hrel
        rw [ev_len] at hrow
        obtain ⟨oa, ocap, rfl⟩ := own_shapeT hrow
        have hvl : vs.length = k := by have := hrow.1; omega
        by_cases hlt : k < n2
        · obtain ⟨qb, qoff, rfl, hA0⟩ := HQ.out k (by rw [HM.out]; exact hlt)
          have hA := hA0.base hbel (blk_lt hA0.k)
          have hokq := HGQ.out k (by rw [HM.out]; exact hlt)
          obtain ⟨p, hp⟩ : ∃ p, p = q.getD k eQ := ⟨_, rfl⟩
          rw [← hp] at hA hokq
          have hstep : ev ls q (k + 1) = ev ls q k ++ [partL ls p (ev ls q k)] := by rw [hp]; rfl
          have hev := ev_ok ls q k
          rw [HN.out] at hev
          have hpl := okT_len (okT_part (p := p) (ev_ok ls q k))
          obtain ⟨ts, hts⟩ : ∃ ts, ts = ev ls q k := ⟨_, rfl⟩
          rw [← hts] at hstep hev hin hpl
          have htl : ts.length = k := by rw [hts]; exact ev_len ls q k
          have hltI : (k : Int) < (n2 : Int) := by omega
          have hc0 := hA.k
          have hc1 := hA.n
          have hc2 := hA.v
          have hc3 := hA.a
          have hc4 := hA.b
          have hb3 := hbel.alloc hbel.size (.cells #[.int .i64 p.k, .string p.n, .string p.v, .int .i64 p.a, .int .i64 p.b] 51)
          have hbx : Below wr.heap.size wr (wr.alloc (.cells #[.int .i64 p.k, .string p.n, .string p.v, .int .i64 p.a, .int .i64 p.b] 51)) := (Below.refl _ _).alloc (Nat.le_refl _) _
          have htlw : Tl (wr.alloc (.cells #[.int .i64 p.k, .string p.n, .string p.v, .int .i64 p.a, .int .i64 p.b] 51)) oa ts := (told_tl hrow hin).below hbx
          have C := hide (CT.out p oa k ocap ts _ (HS.out.below hb3) htl htlw hev hokq)
          have HROW := hide (own_belowT hrow hbx)
          have HIN := hide (hin.below hbx)
          have HB3 := hide hb3
          have HST := hide hstep
          have HTL := hide htl
          have HVL := hide hvl
          have HOB : Hid (∀ g, (Value.slice oa k ocap).ownBlock = some g → g < wr.heap.size) := fun g hg => (hrow.lt g hg).2
          obtain ⟨t, htt⟩ : ∃ t, t = partL ls p ts := ⟨_, rfl⟩
          rw [← htt] at hstep hpl
          simp only [RetI, ← htt] at C
          obtain ⟨m, hmm⟩ : ∃ m, m = t.length := ⟨_, rfl⟩
          simp only [← hmm] at C
          rw [← hmm] at hpl
          have HMM := hide hmm.symm
          have HST2 := hide hstep
          have hn60' : ls.length = n := HN.out
          rw [hn60'] at hpl
          clear hA0 hA hp hstep hev hts htl hrow hin hbel hb3 hbx htlw hokq hvl htt hmm HST hn60'
          go_wp2_with fail
          refine C.out.mono ?_
          rintro e w5 ⟨v5, rfl, ho5, hb5⟩
          have HROW5 := hide (own_belowT HROW.out hb5)
          have HIN5 := hide (HIN.out.below hb5)
          have B5 := hide (HB3.out.trans (hb5.mono HB3.out.size))
          have hsz5 := B5.out.size
          obtain ⟨a5, c5, rfl⟩ := own_shapeT ho5
          have HX5 := hide (own_baseT ho5 HB3.out.size)
          have HAP : Hid (Apart (.slice a5 m c5) (.slice oa k ocap)) := by
            refine hide (apart_new (ys := []) (b2 := 0) (n2 := 0) (c2 := 0) (e2 := 0) ho5 (fun g hg => ?_))
            have := HOB.out g hg
            simp
            omega
          clear ho5 hb5 HROW HIN C
          go_wp2_with (first
            | (at_builtin; refine wpList_append_own_at _ rfl _ _ 67 rfl w.heap.size 57 i1 (.slice none 0 0) 1 24 Try.underlying67 hi1 hy0 hy1 hy2 rfl (by decide) _ _ _ rfl (HROW5.out.alloc _) ⟨w5.heap.size, 0, none⟩ 1 1 [.slice a5 m c5] rfl rfl (cell_one_new _ _ _) (by intro u hu; simp at hu; subst hu; rfl) (by unfold maxLen; omega) (by omega) (by simp; omega) ?_)
            | go_in)
          intro v6 w6 hown6 hgrow6 _ hat6
          have hb6 := B5.out.trans (((Below.refl _ _).alloc hsz5 _).grown hgrow6 (by simp; omega) (fun g hg => (HROW5.out.lt g hg).1))
          have T6 : Hid (Told w6 w.heap.size 57 v6 (ev ls q (k + 1))) := by
            refine hide ?_
            rw [HST2.out]
            refine ⟨vs ++ [.slice a5 m c5], ?_, inn_snoc HMM.out (by rw [HVL.out, HTL.out]) HIN5.out HX5.out HAP.out hgrow6 (by simpa using hat6)⟩
            rw [List.length_append, HTL.out]
            exact hown6
          clear hown6 hgrow6 hat6
          go_wp2
          go_roundw
          case rel => exact ⟨k + 1, by omega, by go_num, T6.out, hb6⟩
          case measure => simp [intOf]; omega
        · obtain rfl : k = n2 := by omega
          have hltI : ¬ (k : Int) < (k : Int) := by omega
          obtain ⟨ai, ci, h1, h2, _⟩ := hin (k - 1) (by rw [ev_len]; omega)
          obtain ⟨t, ht⟩ : ∃ t, t = (ev ls q k).getD (k - 1) [] := ⟨_, rfl⟩
          rw [← ht] at h1 h2
          obtain ⟨m, hmm⟩ : ∃ m, m = t.length := ⟨_, rfl⟩
          rw [← hmm] at h1 h2
          obtain ⟨g, ocap', e', _⟩ : ∃ g c, Value.slice oa k ocap = .slice (some ⟨g, 0, none⟩) k c ∧ True := by
            rcases hrow.2 with ⟨_, h0⟩ | ⟨g, cap', cur, hv, _⟩
            · omega
            · exact ⟨g, cap', hv, trivial⟩
          cases e'
          have hc := hrow.cells (g := g) rfl (k - 1) _ h1
          rw [addr_add] at hc
          have hki : (k : Int) - 1 = ((k - 1 : Nat) : Int) := by omega
          have hki2 : ((k - 1 : Nat) : Int) < (k : Int) := by omega
          have HO := hide h2
          have HT := hide ht.symm
          have HMM := hide hmm.symm
          clear h1 h2 hrow hin ht hmm
          go_wp2
          go_ret2
          exact ⟨_, by rw [HR.out]; rfl, by rw [HR.out]; show World.ownsRow _ _ _ _ _ ((ev ls q k).getD (k - 1) []).length _; rw [HT.out, HMM.out]; exact HO.out, hbel⟩
    · have C2 := hide (fun w hq => goodQuery_any b q n2 cap2 w hm hq hm2 hqt false (iff_of_false (by simp) hgq))
      have hr' : r = none := by rw [hr]; unfold evRes; rw [if_neg (fun h => hgq h.2)]
      subst hr'
      have HQ := hide hq
      clear hr hg hgq hn hs hst hls hm hq hqt
      go_enter Try.func19, Try.ntmps19
      go_wp2_with fail
      refine C1.out.mono ?_
      rintro e w1 ⟨rfl, hb1⟩
      have B1 := hide hb1
      clear hb1
      go_wp2_with fail
      refine (C2.out _ (HQ.out.below B1.out)).mono ?_
      rintro e w2 ⟨rfl, hb2⟩
      have B2 := hide (B1.out.trans (hb2.mono B1.out.size))
      clear hb2
      go_wp2
      go_ret2
      exact ⟨_, rfl, World.ownsRow_nil _ _ _ _, B2.out⟩
  · have C1 := hide (goodSeries_any a ls n cap w hn hs hn2 hst hls false (iff_of_false (by simp) hg))
    have hr' : r = none := by rw [hr]; unfold evRes; rw [if_neg (fun h => hg h.1)]
    subst hr'
    clear hr hg hn hs hst hls hm hq hqt
    go_enter Try.func19, Try.ntmps19
    go_wp2_with fail
    refine C1.out.mono ?_
    rintro e w1 ⟨rfl, hb1⟩
    go_wp2
    go_ret2
    exact ⟨_, rfl, World.ownsRow_nil _ _ _ _, hb1⟩
end Go.Proofs.Ythicdnkngpiccab.L4
