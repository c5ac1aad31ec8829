/-
  Contracts: impl.goodSeries, spec.l4Series; slices.Index and slices.Contains over labels; impl.seriesWith, spec.l4Posts; PostsOf, the program's and the model's.
-/
import Derived.Test.YthicdnkngpiccabL4Ser
import Derived.Test.YthicdnkngpiccabL3Good
import Derived.Test.YthicdnkngpiccabL4SpecQu
import Derived.Deep.QuietTactic
import Derived.BigQuiet
namespace Go.Proofs.Ythicdnkngpiccab.L4
open Go.RowKit L1 L3
set_option linter.unusedVariables false

theorem below_drewP {B : Nat} {a w : World} (h : Below B a w) (n : Nat) : Below B a (w.drewN n) := h.trans ⟨rfl, rfl, rfl, Nat.le_refl _, fun _ _ => rfl⟩
theorem grown_cell {w w' : World} {row : Option Nat} (h : w.grownBy w' row) {k : Nat} (hk : k < w.heap.size) (hne : some k ≠ row) (o : Nat) : w'.cell? ⟨k, o, none⟩ = w.cell? ⟨k, o, none⟩ := by
  obtain ⟨_, _, _, _, h5⟩ := h
  have := h5 k hk hne
  simp only [World.cell?, this]
open Classical in
theorem hav_step (ls : List (List Lb)) (p : Lb) (k : Nat) : (p ∈ ls.getD k [] → hav ls p (k + 1) = hav ls p k ++ [(k : Int)]) ∧ (p ∉ ls.getD k [] → hav ls p (k + 1) = hav ls p k) := by
  constructor
  · intro h; conv => lhs; unfold hav
    rw [if_pos h]
  · intro h; conv => lhs; unfold hav
    rw [if_neg h]
theorem cell_one_two (w : World) (o : Obj) (p : Value) (t : TypeId) : ∀ j u, [p][j]? = some u → ((w.alloc o).alloc (.cells #[p] t)).cell? ((⟨w.heap.size + 1, 0, none⟩ : Addr).add j) = some u := by
  intro j u h
  have := cell_one_new (w.alloc o) p t j u h
  simpa using this
/-- A new list of ints that a call hands back. -/
def RetI (w : World) (xs : List Int) (e : Ending) (w' : World) : Prop := ∃ v, e = .returned v ∧ w'.ownsRow w.heap.size 3 1 v xs.length (xs.map (Value.int .i64)) ∧ Below w.heap.size w w'

set_option maxRecDepth 100000 in
set_option maxHeartbeats 2000000 in
theorem goodSeries_any (a : Option Addr) (ls : List (List Lb)) (n cap : Nat) (w : World) (hn : ls.length = n) (hs : SlS w a ls) (hn2 : n ≤ 1048576) (hst : TxS ls) (hls : ∀ i, i < ls.length → (ls.getD i []).length ≤ 1048576) (bb : Bool) (hbb : bb = true ↔ GoodS ls) :
    Calls Try.prog 42 #[.slice a n cap] w fun e w' => e = .returned (.bool bb) ∧ Below w.heap.size w w' := by
  have HBB := hide hbb
  have HST := hide hst
  have HLS := hide hls
  clear hbb hst hls
  by_cases h60 : 60 < (n : Int)
  · have hno : ¬ GoodS ls := fun h => by have := h.1; omega
    have HNO := hide hno
    clear hs hn hno
    go_enter Try.func42, Try.ntmps42
    go_wp2
    go_ret
    exact ⟨by rw [bool_noT HBB.out HNO.out]; rfl, Below.refl _ _⟩
  have HS := hide hs
  have HN := hide hn
  clear hs hn
  go_enter Try.func42, Try.ntmps42
  go_wp2
  go_loopw [10] (fun i wr => ∃ k : Nat, k ≤ n ∧ i = .int .i64 k ∧ Hid (∀ j, j < k → GoodL (ls.getD j [])) ∧ Below w.heap.size w wr) (fun i _ => n - (intOf i).toNat)
  case atStart => exact ⟨0, Nat.zero_le _, rfl, fun j hj => absurd hj (Nat.not_lt_zero _), Below.refl _ _⟩
  case round =>
    obtain ⟨k, hk, rfl, HJ, hbel⟩ := hrel
    by_cases hlt : k < n
    · obtain ⟨b, off, rfl, ai, ci, hc0, hs0⟩ := HS.out k (by rw [HN.out]; exact hlt)
      have hc := (hbel.cell (p := ⟨b, off + k, none⟩) (blk_lt hc0)).trans hc0
      have hs1 := hs0.below hbel
      have hsx := (HST.out k (by rw [HN.out]; exact hlt)).2
      have hlx := HLS.out k (by rw [HN.out]; exact hlt)
      obtain ⟨l, hl⟩ : ∃ l, l = ls.getD k [] := ⟨_, rfl⟩
      rw [← hl] at hc hs1 hsx hlx
      obtain ⟨m, hm⟩ : ∃ m, m = l.length := ⟨_, rfl⟩
      rw [← hm] at hc hlx
      have hltI : (k : Int) < (n : Int) := by omega
      have HL := hide hl.symm
      have B0 := hide hbel
      have C0 := hide (fun bb hbb => goodLabels_any ai l m ci wr hm.symm hs1 hlx hsx bb hbb)
      clear hc0 hs0 hs1 hsx hl hm hbel
      by_cases hok : GoodL l
      · have C := hide (C0.out true (iff_of_true rfl hok))
        have HOK := hide hok
        clear hok C0
        go_wp2_with fail
        refine C.out.mono ?_
        rintro e w1 ⟨rfl, hb1⟩
        have B2 := hide (B0.out.trans (hb1.mono B0.out.size))
        clear hb1
        go_wp2
        go_roundw
        case rel =>
          refine ⟨k + 1, by omega, by go_num, ?_, B2.out⟩
          intro j hj
          by_cases e : j = k
          · subst e; rw [HL.out]; exact HOK.out
          · exact HJ.out j (by omega)
        case measure => simp [intOf]; omega
      · have C := hide (C0.out false (iff_of_false (by simp) hok))
        have hno : ¬ GoodS ls := fun h => hok (by have := h.2 k (by rw [HN.out]; exact hlt); rw [HL.out] at this; exact this)
        have HNO := hide hno
        clear hok hno C0
        go_wp2_with fail
        refine C.out.mono ?_
        rintro e w1 ⟨rfl, hb1⟩
        have B2 := hide (B0.out.trans (hb1.mono B0.out.size))
        clear hb1
        go_wp2
        go_ret
        exact ⟨by rw [bool_noT HBB.out HNO.out]; rfl, B2.out⟩
    · have hltI : ¬ (k : Int) < (n : Int) := by omega
      have hg : GoodS ls := ⟨by rw [HN.out]; omega, fun j hj => HJ.out j (by rw [HN.out] at hj; omega)⟩
      have HG := hide hg
      clear hg
      go_wp2
      go_ret
      exact ⟨by rw [HBB.out.2 HG.out]; rfl, hbel⟩

set_option maxRecDepth 100000 in
set_option maxHeartbeats 2000000 in
theorem l4Series_any (a : Option Addr) (ls : List (List Lb)) (n cap : Nat) (w : World) (hn : ls.length = n) (hs : SlS w a ls) (hn2 : n ≤ 1048576) (hst : TxS ls) (hls : ∀ i, i < ls.length → (ls.getD i []).length ≤ 1048576) (bb : Bool) (hbb : bb = true ↔ GoodS ls) :
    Calls Try.prog 44 #[.slice a n cap] w fun e w' => e = .returned (.bool bb) ∧ Below w.heap.size w w' := by
  have HBB := hide hbb
  have HST := hide hst
  have HLS := hide hls
  clear hbb hst hls
  have HS := hide hs
  have HN := hide hn
  clear hs hn
  go_enter Try.func44, Try.ntmps44
  go_wp2
  go_loopw [7] (fun i wr => ∃ k : Nat, k ≤ n ∧ i = .int .i64 k ∧ Hid (∀ j, j < k → GoodL (ls.getD j [])) ∧ Below w.heap.size w wr) (fun i _ => n - (intOf i).toNat)
  case atStart => exact ⟨0, Nat.zero_le _, rfl, fun j hj => absurd hj (Nat.not_lt_zero _), Below.refl _ _⟩
  case round =>
    obtain ⟨k, hk, rfl, HJ, hbel⟩ := hrel
    by_cases hlt : k < n
    · obtain ⟨b, off, rfl, ai, ci, hc0, hs0⟩ := HS.out k (by rw [HN.out]; exact hlt)
      have hc := (hbel.cell (p := ⟨b, off + k, none⟩) (blk_lt hc0)).trans hc0
      have hs1 := hs0.below hbel
      have hsx := (HST.out k (by rw [HN.out]; exact hlt)).2
      have hlx := HLS.out k (by rw [HN.out]; exact hlt)
      obtain ⟨l, hl⟩ : ∃ l, l = ls.getD k [] := ⟨_, rfl⟩
      rw [← hl] at hc hs1 hsx hlx
      obtain ⟨m, hm⟩ : ∃ m, m = l.length := ⟨_, rfl⟩
      rw [← hm] at hc hlx
      have hltI : (k : Int) < (n : Int) := by omega
      have HL := hide hl.symm
      have B0 := hide hbel
      have C0 := hide (fun bb hbb => specGoodLabels_any ai l m ci wr hm.symm hs1 hlx hsx bb hbb)
      clear hc0 hs0 hs1 hsx hl hm hbel
      by_cases hok : GoodL l
      · have C := hide (C0.out true (iff_of_true rfl hok))
        have HOK := hide hok
        clear hok C0
        go_wp2_with fail
        refine C.out.mono ?_
        rintro e w1 ⟨rfl, hb1⟩
        have B2 := hide (B0.out.trans (hb1.mono B0.out.size))
        clear hb1
        go_wp2
        go_roundw
        case rel =>
          refine ⟨k + 1, by omega, by go_num, ?_, B2.out⟩
          intro j hj
          by_cases e : j = k
          · subst e; rw [HL.out]; exact HOK.out
          · exact HJ.out j (by omega)
        case measure => simp [intOf]; omega
      · have C := hide (C0.out false (iff_of_false (by simp) hok))
        have hno : ¬ GoodS ls := fun h => hok (by have := h.2 k (by rw [HN.out]; exact hlt); rw [HL.out] at this; exact this)
        have HNO := hide hno
        clear hok hno C0
        go_wp2_with fail
        refine C.out.mono ?_
        rintro e w1 ⟨rfl, hb1⟩
        have B2 := hide (B0.out.trans (hb1.mono B0.out.size))
        clear hb1
        go_wp2
        go_ret
        exact ⟨by rw [bool_noT HBB.out HNO.out]; rfl, B2.out⟩
    · have hltI : ¬ (k : Int) < (n : Int) := by omega
      by_cases h60 : (n : Int) ≤ 60
      · have hg : GoodS ls := ⟨by rw [HN.out]; omega, fun j hj => HJ.out j (by rw [HN.out] at hj; omega)⟩
        have HG := hide hg
        clear hg
        go_wp2
        go_ret
        exact ⟨by rw [HBB.out.2 HG.out]; rfl, hbel⟩
      · have hno : ¬ GoodS ls := fun h => by have := h.1; rw [HN.out] at this; omega
        have HNO := hide hno
        clear hno
        go_wp2
        go_ret
        exact ⟨by rw [bool_noT HBB.out HNO.out]; rfl, hbel⟩

set_option maxRecDepth 100000 in
set_option maxHeartbeats 2000000 in
theorem indexL_any (a : Option Addr) (l : List Lb) (n cap : Nat) (px py : ByteArray) (w : World) (hn : l.length = n) (hs : SlL w a l) (hn2 : n ≤ 1048576) :
    Calls Try.prog 78 #[.slice a n cap, .agg #[.string px, .string py]] w fun e w' => (∃ k : Int, e = .returned (.int .i64 k) ∧ (0 ≤ k ↔ (px, py) ∈ l)) ∧ Below w.heap.size w w' := by
  have HS := hide hs
  have HN := hide hn
  have hb0 : Below w.heap.size w (w.alloc (.cells #[.string px, .string py] 44)) := (Below.refl _ _).alloc (Nat.le_refl _) _
  have HB0 := hide hb0
  clear hs hn hb0
  go_enter Try.func78, Try.ntmps78
  go_wp2
  go_loopw [8] (fun i wr => ∃ k : Nat, k ≤ n ∧ i = .int .i64 k ∧ Hid (∀ j, j < k → l.getD j eL ≠ (px, py)) ∧ wr.cell? ⟨w.heap.size, 0, none⟩ = some (.string px) ∧ wr.cell? ⟨w.heap.size, 1, none⟩ = some (.string py) ∧ Below w.heap.size w wr) (fun i _ => n - (intOf i).toNat)
  case atStart => exact ⟨0, Nat.zero_le _, rfl, fun j hj => absurd hj (Nat.not_lt_zero _), by simp, by simp, HB0.out⟩
  case round =>
    obtain ⟨k, hk, rfl, HJ, hp0, hp1, hbel⟩ := hrel
    by_cases hlt : k < n
    · obtain ⟨b, off, rfl, hc0, hd0⟩ := HS.out k (by rw [HN.out]; exact hlt)
      have hc := (hbel.cell (p := ⟨b, off + k * 2, none⟩) (blk_lt hc0)).trans hc0
      have hd := (hbel.cell (p := ⟨b, off + k * 2 + 1, none⟩) (blk_lt hd0)).trans hd0
      have hltI : (k : Int) < (n : Int) := by omega
      have hmem0 := getDL_mem (l := l) (j := k) (by rw [HN.out]; exact hlt)
      obtain ⟨⟨x, y⟩, hx⟩ : ∃ p, p = l.getD k eL := ⟨_, rfl⟩
      rw [← hx] at hc hd hmem0
      simp only at hc hd
      have HX := hide hx.symm
      have B0 := hide hbel
      have HP0 := hide hp0
      have HP1 := hide hp1
      clear hx hc0 hd0 hbel
      by_cases h1 : px.toList = x.toList
      · by_cases h2 : py.toList = y.toList
        · have hmem : (px, py) ∈ l := by rw [ba_same.1 h1, ba_same.1 h2]; exact hmem0
          have HM := hide hmem
          clear hmem hmem0
          go_wp2
          go_quiet (fail)
          go_wp2
          go_ret
          exact ⟨⟨(k : Int), rfl, by simp [HM.out]⟩, below_drewP B0.out _⟩
        · have HNE : Hid (l.getD k eL ≠ (px, py)) := fun e => h2 (by rw [HX.out] at e; cases e; rfl)
          clear hmem0
          go_wp2
          go_quiet (fail)
          go_wp2
          go_roundw
          case rel =>
            refine ⟨k + 1, by omega, by go_num, ?_, HP0.out, HP1.out, below_drewP B0.out _⟩
            intro j hj
            by_cases e : j = k
            · subst e; exact HNE.out
            · exact HJ.out j (by omega)
          case measure => simp [intOf]; omega
      · have HNE : Hid (l.getD k eL ≠ (px, py)) := fun e => h1 (by rw [HX.out] at e; cases e; rfl)
        clear hmem0
        go_wp2
        go_quiet (fail)
        go_wp2
        go_roundw
        case rel =>
          refine ⟨k + 1, by omega, by go_num, ?_, HP0.out, HP1.out, below_drewP B0.out _⟩
          intro j hj
          by_cases e : j = k
          · subst e; exact HNE.out
          · exact HJ.out j (by omega)
        case measure => simp [intOf]; omega
    · have hltI : ¬ (k : Int) < (n : Int) := by omega
      have hmem : (px, py) ∉ l := fun h => by
        obtain ⟨j, hj, e⟩ := memL_getD h
        exact HJ.out j (by rw [HN.out] at hj; omega) e
      have HM := hide hmem
      clear hmem
      go_wp2
      go_ret
      exact ⟨⟨-1, rfl, by simp [HM.out]⟩, hbel⟩
set_option maxRecDepth 100000 in
set_option maxHeartbeats 1000000 in
theorem containsL_any (a : Option Addr) (l : List Lb) (n cap : Nat) (px py : ByteArray) (w : World) (hn : l.length = n) (hs : SlL w a l) (hn2 : n ≤ 1048576) (bb : Bool) (hbb : bb = true ↔ (px, py) ∈ l) :
    Calls Try.prog 72 #[.slice a n cap, .agg #[.string px, .string py]] w fun e w' => e = .returned (.bool bb) ∧ Below w.heap.size w w' := by
  have C := hide (indexL_any a l n cap px py _ hn (hs.below ((Below.refl _ _).alloc (Nat.le_refl _) (.cells #[.string px, .string py] 44))) hn2)
  have HBB := hide hbb
  clear hbb hs hn
  go_enter Try.func72, Try.ntmps72
  go_wp2_with fail
  refine C.out.mono ?_
  rintro e w1 ⟨⟨k, rfl, hk⟩, hb1⟩
  have hb : bb = decide (0 ≤ k) := by
    rw [Bool.eq_iff_iff, HBB.out]; simp [hk]
  have HB := hide hb
  have B1 := hide (((Below.refl _ _).alloc (Nat.le_refl _) _).trans (hb1.mono (by simp)))
  clear hk hb hb1
  go_wp2
  go_ret
  exact ⟨by rw [HB.out]; rfl, B1.out⟩

set_option maxRecDepth 100000 in
set_option maxHeartbeats 4000000 in
theorem seriesWith_any (a : Option Addr) (ls : List (List Lb)) (n cap : Nat) (px py : ByteArray) (w : World) (hn : ls.length = n) (hs : SlS w a ls) (hn2 : n ≤ 1048576) (hls : ∀ i, i < ls.length → (ls.getD i []).length ≤ 1048576) :
    Calls Try.prog 51 #[.slice a n cap, .agg #[.string px, .string py]] w fun e w' => RetI w (hav ls (px, py) n) e w' := by
  obtain ⟨i1, hi1, hy0, hy1, hy2⟩ := info_parts info_int
  have HS := hide hs
  have HN := hide hn
  have HLS := hide hls
  have hb0 : Below w.heap.size w (w.alloc (.cells #[.string px, .string py] 44)) := (Below.refl _ _).alloc (Nat.le_refl _) _
  have HB0 := hide hb0
  clear hs hn hls hb0
  go_enter Try.func51, Try.ntmps51
  go_wp2
  go_loopw [5, 10] (fun ot i wr => ∃ k : Nat, k ≤ n ∧ i = .int .i64 k ∧ wr.ownsRow w.heap.size 3 1 ot (hav ls (px, py) k).length ((hav ls (px, py) k).map (Value.int .i64)) ∧ Below w.heap.size w wr ∧ wr.cell? ⟨w.heap.size, 0, none⟩ = some (.string px) ∧ wr.cell? ⟨w.heap.size, 1, none⟩ = some (.string py) ∧ Hid (ot.ownBlock ≠ some w.heap.size)) (fun _ i _ => n - (intOf i).toNat)
  case atStart => exact ⟨0, Nat.zero_le _, rfl, World.ownsRow_nil _ _ _ _, HB0.out, by simp, by simp, by show _ ≠ _; simp [Value.ownBlock]⟩
  case round =>
    obtain ⟨k, hk, rfl, hown, hbel, hp0, hp1, HNB⟩ := hrel
    obtain ⟨oa, ocap, rfl, _, _⟩ := own_form hown
    by_cases hlt : k < n
    · obtain ⟨b, off, rfl, ai, ci, hc0, hs0⟩ := HS.out k (by rw [HN.out]; exact hlt)
      have hc := (hbel.cell (p := ⟨b, off + k, none⟩) (blk_lt hc0)).trans hc0
      have hs1 := hs0.below hbel
      have hlx := HLS.out k (by rw [HN.out]; exact hlt)
      have hstep := hav_step ls (px, py) k
      obtain ⟨l, hl⟩ : ∃ l, l = ls.getD k [] := ⟨_, rfl⟩
      rw [← hl] at hc hs1 hlx hstep
      obtain ⟨m, hm⟩ : ∃ m, m = l.length := ⟨_, rfl⟩
      rw [← hm] at hc hlx
      have hltI : (k : Int) < (n : Int) := by omega
      have hml := hav_len ls (px, py) k
      obtain ⟨q, hq⟩ : ∃ q, q = (hav ls (px, py) k).length := ⟨_, rfl⟩
      rw [← hq] at hown hml HNB ⊢
      have HQ := hide hq
      have HROW0 := hide hown
      have B0 := hide hbel
      have C0 := hide (fun bb hbb => containsL_any ai l m ci px py wr hm.symm hs1 hlx bb hbb)
      have hwz : w.heap.size < wr.heap.size := blk_lt hp0
      have HP0 := hide hp0
      have HP1 := hide hp1
      clear hc0 hs0 hs1 hl hm hbel hown hq
      by_cases hmem : (px, py) ∈ l
      · have HST : Hid (hav ls (px, py) (k + 1) = hav ls (px, py) k ++ [(k : Int)]) := by refine hide ?_; exact hstep.1 hmem
        have C := hide (C0.out true (iff_of_true rfl hmem))
        clear hstep hmem C0
        go_wp2_with fail
        refine C.out.mono ?_
        rintro e w1 ⟨rfl, hb1⟩
        have hp0 := (hb1.cell (p := ⟨w.heap.size, 0, none⟩) hwz).trans HP0.out
        have hp1 := (hb1.cell (p := ⟨w.heap.size, 1, none⟩) hwz).trans HP1.out
        have HROW := hide (own_belowT HROW0.out hb1)
        have B2 := hide (B0.out.trans (hb1.mono B0.out.size))
        have hsz := B2.out.size
        have hwz1 := Nat.lt_of_lt_of_le hwz hb1.size
        clear hb1
        go_wp2_with (first
          | (at_builtin; refine wpList_append_own_at _ rfl _ _ 57 rfl w.heap.size 3 i1 (.int .i64 0) 1 8 Try.underlying57 hi1 hy0 hy1 hy2 rfl (by decide) _ _ _ rfl (HROW.out.alloc _) ⟨w1.heap.size, 0, none⟩ 1 1 [.int .i64 (k : Int)] rfl rfl (cell_one_new _ _ _) (by intro u hu; simp at hu; subst hu; rfl) (by unfold maxLen; omega) (by omega) (by simp; omega) ?_)
          | go_in)
        intro v6 w6 hown6 hgrow6 _ hat6
        have hb6 := B2.out.trans (((Below.refl _ _).alloc hsz _).grown hgrow6 (by simp; omega) (fun g hg => (HROW.out.lt g hg).1))
        have hp6 : w6.cell? ⟨w.heap.size, 0, none⟩ = some (.string px) ∧ w6.cell? ⟨w.heap.size, 1, none⟩ = some (.string py) := by
          have q := grown_cell hgrow6 (k := w.heap.size) (by simp; omega) (fun e => HNB.out e.symm)
          have r := (Below.refl w1.heap.size w1).alloc (Nat.le_refl _) (.cells #[.int .i64 (k : Int)] 3)
          exact ⟨((q 0).trans (r.cell (p := ⟨w.heap.size, 0, none⟩) hwz1)).trans hp0, ((q 1).trans (r.cell (p := ⟨w.heap.size, 1, none⟩) hwz1)).trans hp1⟩
        have HP6 := hide hp6
        have hnb6 : v6.ownBlock ≠ some w.heap.size := by
          rcases hat6 with e | e
          · rw [e]; exact HNB.out
          · rw [e]; intro h; simp at h; omega
        have HNB6 := hide hnb6
        have hown8 : w6.ownsRow w.heap.size 3 1 v6 (hav ls (px, py) (k + 1)).length ((hav ls (px, py) (k + 1)).map (Value.int .i64)) := by
          rw [HST.out, List.length_append, List.map_append, ← HQ.out]; simpa using hown6
        have hown7 := hide hown8
        clear hown6 hgrow6 hown8 hp6 hnb6 hat6
        go_wp2
        go_roundw
        case rel => exact ⟨k + 1, by omega, by go_num, hown7.out, hb6, HP6.out.1, HP6.out.2, HNB6.out⟩
        case measure => simp [intOf]; omega
      · have HST : Hid (hav ls (px, py) (k + 1) = hav ls (px, py) k) := by refine hide ?_; exact hstep.2 hmem
        have C := hide (C0.out false (iff_of_false (by simp) hmem))
        clear hstep hmem C0
        go_wp2_with fail
        refine C.out.mono ?_
        rintro e w1 ⟨rfl, hb1⟩
        have hp0 := (hb1.cell (p := ⟨w.heap.size, 0, none⟩) hwz).trans HP0.out
        have hp1 := (hb1.cell (p := ⟨w.heap.size, 1, none⟩) hwz).trans HP1.out
        have HROW := hide (own_belowT HROW0.out hb1)
        have B2 := hide (B0.out.trans (hb1.mono B0.out.size))
        clear hb1
        go_wp2
        go_roundw
        case rel => exact ⟨k + 1, by omega, by go_num, by rw [HST.out, ← HQ.out]; exact HROW.out, B2.out, hp0, hp1, HNB⟩
        case measure => simp [intOf]; omega
    · obtain rfl : k = n := by omega
      have hltI : ¬ (k : Int) < (k : Int) := by omega
      have HO := hide hown
      clear hown
      go_wp2
      go_ret
      exact ⟨_, rfl, HO.out, hbel⟩

open Classical in
/-- What the model has found after j labels of series k. -/
noncomputable def inl (ls : List (List Lb)) (p : Lb) (k j : Nat) : List Int := hav ls p k ++ (if p ∈ (ls.getD k []).take j then [(k : Int)] else [])
theorem inl_len (ls : List (List Lb)) (p : Lb) (k j : Nat) : (inl ls p k j).length ≤ k + 1 := by
  have := hav_len ls p k
  unfold inl
  split <;> simp <;> omega
theorem inl_zero (ls : List (List Lb)) (p : Lb) (k : Nat) : inl ls p k 0 = hav ls p k := by simp [inl]
theorem inl_end (ls : List (List Lb)) (p : Lb) (k m : Nat) (hm : (ls.getD k []).length = m) : inl ls p k m = hav ls p (k + 1) := by
  unfold inl
  rw [List.take_of_length_le (by omega)]
  by_cases h : p ∈ ls.getD k []
  · rw [(hav_step ls p k).1 h, if_pos h]
  · rw [(hav_step ls p k).2 h, if_neg h]; simp
theorem takeL_mem {l : List Lb} {j : Nat} {p : Lb} : p ∈ l.take j ↔ ∃ i, i < j ∧ i < l.length ∧ l.getD i eL = p := by
  constructor
  · intro h
    obtain ⟨i, hi, e⟩ := memL_getD h
    have hi' : i < j ∧ i < l.length := by simp at hi; omega
    refine ⟨i, hi'.1, hi'.2, ?_⟩
    rw [getDL_eq hi] at e
    rw [getDL_eq hi'.2]
    simpa using e
  · rintro ⟨i, h1, h2, rfl⟩
    rw [getDL_eq h2]
    exact List.mem_take_iff_getElem.2 ⟨i, by omega, rfl⟩
theorem inl_same (ls : List (List Lb)) (p : Lb) (k j : Nat) (hg : GoodL (ls.getD k [])) (hj : j < (ls.getD k []).length) (he : (ls.getD k []).getD j eL = p) : inl ls p k (j + 1) = inl ls p k j ++ [(k : Int)] := by
  have h1 : p ∈ (ls.getD k []).take (j + 1) := takeL_mem.2 ⟨j, by omega, hj, he⟩
  have h2 : ¬ p ∈ (ls.getD k []).take j := fun h => by
    obtain ⟨i, a, b, c⟩ := takeL_mem.1 h
    exact good_once hg a hj (by rw [c, he])
  unfold inl
  rw [if_pos h1, if_neg h2]
  simp
theorem inl_other (ls : List (List Lb)) (p : Lb) (k j : Nat) (hj : j < (ls.getD k []).length) (he : (ls.getD k []).getD j eL ≠ p) : inl ls p k (j + 1) = inl ls p k j := by
  have h1 : p ∈ (ls.getD k []).take (j + 1) ↔ p ∈ (ls.getD k []).take j := by
    rw [takeL_mem, takeL_mem]
    constructor
    · rintro ⟨i, a, b, c⟩
      by_cases e : i = j
      · subst e; exact absurd c he
      · exact ⟨i, by omega, b, c⟩
    · rintro ⟨i, a, b, c⟩
      exact ⟨i, by omega, b, c⟩
  unfold inl
  by_cases h : p ∈ (ls.getD k []).take j
  · rw [if_pos h, if_pos (h1.2 h)]
  · rw [if_neg h, if_neg (fun x => h (h1.1 x))]

set_option maxRecDepth 100000 in
set_option maxHeartbeats 8000000 in
theorem l4Posts_any (a : Option Addr) (ls : List (List Lb)) (n cap : Nat) (px py : ByteArray) (w : World) (hn : ls.length = n) (hs : SlS w a ls) (hn2 : n ≤ 1048576) (hgs : ∀ i, i < ls.length → GoodL (ls.getD i [])) :
    Calls Try.prog 52 #[.slice a n cap, .agg #[.string px, .string py]] w fun e w' => RetI w (hav ls (px, py) n) e w' := by
  obtain ⟨i1, hi1, hy0, hy1, hy2⟩ := info_parts info_int
  have HS := hide hs
  have HN := hide hn
  have HGS := hide hgs
  have hb0 : Below w.heap.size w (w.alloc (.cells #[.string px, .string py] 44)) := (Below.refl _ _).alloc (Nat.le_refl _) _
  have HB0 := hide hb0
  clear hs hn hgs hb0
  go_enter Try.func52, Try.ntmps52
  go_wp2
  go_loopw [5, 12] (fun ot i wr => ∃ k : Nat, k ≤ n ∧ i = .int .i64 k ∧ wr.ownsRow w.heap.size 3 1 ot (hav ls (px, py) k).length ((hav ls (px, py) k).map (Value.int .i64)) ∧ Below w.heap.size w wr ∧ wr.cell? ⟨w.heap.size, 0, none⟩ = some (.string px) ∧ wr.cell? ⟨w.heap.size, 1, none⟩ = some (.string py) ∧ Hid (ot.ownBlock ≠ some w.heap.size)) (fun _ i _ => n - (intOf i).toNat)
  case atStart => exact ⟨0, Nat.zero_le _, rfl, World.ownsRow_nil _ _ _ _, HB0.out, by simp, by simp, by show _ ≠ _; simp [Value.ownBlock]⟩
  case round =>
    obtain ⟨k, hk, rfl, hown, hbel, hp0, hp1, HNB⟩ := hrel
    obtain ⟨oa, ocap, rfl, _, _⟩ := own_form hown
    by_cases hlt : k < n
    · obtain ⟨b, off, rfl, ai, ci, hc0, hs0⟩ := HS.out k (by rw [HN.out]; exact hlt)
      have hc := (hbel.cell (p := ⟨b, off + k, none⟩) (blk_lt hc0)).trans hc0
      have hg := HGS.out k (by rw [HN.out]; exact hlt)
      obtain ⟨m, hm⟩ : ∃ m, m = (ls.getD k []).length := ⟨_, rfl⟩
      rw [← hm] at hc
      have hm6 : m ≤ 6 := by have := hg.1; omega
      have hltI : (k : Int) < (n : Int) := by omega
      have HG := hide hg
      have HML := hide hm.symm
      have HSL := hide hs0
      have HO0 := hide hown
      have B0 := hide hbel
      have HP0 := hide hp0
      have HP1 := hide hp1
      clear hc0 hs0 hg hm hown hbel
      go_wp2
      go_loopw [5, 19] (fun ot i wq => ∃ j : Nat, j ≤ m ∧ i = .int .i64 j ∧ wq.ownsRow w.heap.size 3 1 ot (inl ls (px, py) k j).length ((inl ls (px, py) k j).map (Value.int .i64)) ∧ Below w.heap.size w wq ∧ wq.cell? ⟨w.heap.size, 0, none⟩ = some (.string px) ∧ wq.cell? ⟨w.heap.size, 1, none⟩ = some (.string py) ∧ Hid (ot.ownBlock ≠ some w.heap.size)) (fun _ i _ => m - (intOf i).toNat)
      case atStart => exact ⟨0, Nat.zero_le _, rfl, by rw [inl_zero]; exact HO0.out, B0.out, HP0.out, HP1.out, HNB⟩
      case round =>
        clear hc hp0 hp1 HO0 B0 HP0 HP1 HNB
        obtain ⟨j, hj, rfl, hown, hbel, hp0, hp1, HNB⟩ := hrel
        obtain ⟨oa2, ocap2, rfl, _, _⟩ := own_form hown
        by_cases hjl : j < m
        · obtain ⟨b2, off2, rfl, hc0, hd0⟩ := HSL.out j (by rw [HML.out]; exact hjl)
          have hc := (hbel.cell (p := ⟨b2, off2 + j * 2, none⟩) (blk_lt hc0)).trans hc0
          have hd := (hbel.cell (p := ⟨b2, off2 + j * 2 + 1, none⟩) (blk_lt hd0)).trans hd0
          have hjlI : (j : Int) < (m : Int) := by omega
          obtain ⟨⟨x, y⟩, hx⟩ : ∃ p, p = (ls.getD k []).getD j eL := ⟨_, rfl⟩
          rw [← hx] at hc hd
          simp only at hc hd
          have HX := hide hx.symm
          have hwz : w.heap.size < wr.heap.size := blk_lt hp0
          have hne : ¬ w.heap.size = wr.heap.size := by omega
          have hml := inl_len ls (px, py) k j
          obtain ⟨q, hq⟩ : ∃ q, q = (inl ls (px, py) k j).length := ⟨_, rfl⟩
          rw [← hq] at hown hml HNB ⊢
          have HQ := hide hq
          have HROW := hide hown
          have B0 := hide hbel
          have hsz := hbel.size
          have HP0 := hide hp0
          have HP1 := hide hp1
          have hp0' : (wr.alloc (.cells #[.string x, .string y] 44)).cell? ⟨w.heap.size, 0, none⟩ = some (.string px) := (((Below.refl wr.heap.size wr).alloc (Nat.le_refl _) _).cell (p := ⟨w.heap.size, 0, none⟩) hwz).trans hp0
          have hp1' : (wr.alloc (.cells #[.string x, .string y] 44)).cell? ⟨w.heap.size, 1, none⟩ = some (.string py) := (((Below.refl wr.heap.size wr).alloc (Nat.le_refl _) _).cell (p := ⟨w.heap.size, 1, none⟩) hwz).trans hp1
          clear hc0 hd0 hx hown hbel hq hp0 hp1
          by_cases h1 : px.toList = x.toList
          · by_cases h2 : py.toList = y.toList
            · have HST : Hid (inl ls (px, py) k (j + 1) = inl ls (px, py) k j ++ [(k : Int)]) := inl_same ls (px, py) k j HG.out (by rw [HML.out]; exact hjl) (by rw [HX.out, ba_same.1 h1, ba_same.1 h2])
              go_wp2_with (first
                | (at_builtin; refine wpList_append_own_at _ rfl _ _ 23 rfl w.heap.size 3 i1 (.int .i64 0) 1 8 Try.underlying23 hi1 hy0 hy1 hy2 rfl (by decide) _ _ _ rfl ((HROW.out.alloc _).alloc _) ⟨wr.heap.size + 1, 0, none⟩ 1 1 [.int .i64 (k : Int)] rfl rfl (cell_one_two _ _ _ _) (by intro u hu; simp at hu; subst hu; rfl) (by unfold maxLen; omega) (by omega) (by simp; omega) ?_)
                | go_in)
              intro v6 w6 hown6 hgrow6 _ hat6
              have hb6 := B0.out.trans ((((Below.refl _ _).alloc hsz _).alloc (by simp; omega) _).grown hgrow6 (by simp; omega) (fun g hg => (HROW.out.lt g hg).1))
              have hp6 : w6.cell? ⟨w.heap.size, 0, none⟩ = some (.string px) ∧ w6.cell? ⟨w.heap.size, 1, none⟩ = some (.string py) := by
                have q := grown_cell hgrow6 (k := w.heap.size) (by simp; omega) (fun e => HNB.out e.symm)
                have r := ((Below.refl wr.heap.size wr).alloc (Nat.le_refl _) (.cells #[.string x, .string y] 44)).alloc (by simp) (.cells #[.int .i64 (k : Int)] 3)
                exact ⟨((q 0).trans (r.cell (p := ⟨w.heap.size, 0, none⟩) hwz)).trans HP0.out, ((q 1).trans (r.cell (p := ⟨w.heap.size, 1, none⟩) hwz)).trans HP1.out⟩
              have HP6 := hide hp6
              have hnb6 : v6.ownBlock ≠ some w.heap.size := by
                rcases hat6 with e | e
                · rw [e]; exact HNB.out
                · rw [e]; intro h; simp at h; omega
              have HNB6 := hide hnb6
              have hown8 : w6.ownsRow w.heap.size 3 1 v6 (inl ls (px, py) k (j + 1)).length ((inl ls (px, py) k (j + 1)).map (Value.int .i64)) := by
                rw [HST.out, List.length_append, List.map_append, ← HQ.out]; simpa using hown6
              have hown7 := hide hown8
              clear hown6 hgrow6 hown8 hp6 hnb6 hat6
              go_wp2
              go_roundw
              case rel => exact ⟨j + 1, by omega, by go_num, hown7.out, hb6, HP6.out.1, HP6.out.2, HNB6.out⟩
              case measure => simp [intOf]; omega
            · have HST : Hid (inl ls (px, py) k (j + 1) = inl ls (px, py) k j) := inl_other ls (px, py) k j (by rw [HML.out]; exact hjl) (fun e => h2 (by rw [HX.out] at e; cases e; rfl))
              go_wp2
              go_roundw
              case rel => exact ⟨j + 1, by omega, by go_num, by rw [HST.out, ← HQ.out]; exact HROW.out.alloc _, B0.out.alloc hsz _, hp0', hp1', HNB⟩
              case measure => simp [intOf]; omega
          · have HST : Hid (inl ls (px, py) k (j + 1) = inl ls (px, py) k j) := inl_other ls (px, py) k j (by rw [HML.out]; exact hjl) (fun e => h1 (by rw [HX.out] at e; cases e; rfl))
            go_wp2
            go_roundw
            case rel => exact ⟨j + 1, by omega, by go_num, by rw [HST.out, ← HQ.out]; exact HROW.out.alloc _, B0.out.alloc hsz _, hp0', hp1', HNB⟩
            case measure => simp [intOf]; omega
        · obtain rfl : j = m := by omega
          have hjlI : ¬ (j : Int) < (j : Int) := by omega
          rw [inl_end ls (px, py) k j HML.out] at hown HNB ⊢
          have HO := hide hown
          clear hown
          go_wp2
          go_roundw
          case rel => exact ⟨k + 1, by omega, by go_num, HO.out, hbel, hp0, hp1, HNB⟩
          case measure => simp [intOf]; omega
    · obtain rfl : k = n := by omega
      have hltI : ¬ (k : Int) < (k : Int) := by omega
      have HO := hide hown
      clear hown
      go_wp2
      go_ret
      exact ⟨_, rfl, HO.out, hbel⟩

set_option maxRecDepth 100000 in
set_option maxHeartbeats 2000000 in
theorem implPostsOf_any (a : Option Addr) (ls : List (List Lb)) (n cap : Nat) (px py : ByteArray) (w : World) (hn : ls.length = n) (hs : SlS w a ls) (hn2 : n ≤ 1048576) (hst : TxS ls) (hls : ∀ i, i < ls.length → (ls.getD i []).length ≤ 1048576) (hx : px.size ≤ 9223372036854775807) (hy : py.size ≤ 9223372036854775807) (r : Option (List Int)) (hr : r = postsRes ls (px, py)) :
    Calls Try.prog 25 #[.slice a n cap, .agg #[.string px, .string py]] w fun e w' => RetL w r e w' := by
  have hb0 : Below w.heap.size w (w.alloc (.cells #[.string px, .string py] 44)) := (Below.refl _ _).alloc (Nat.le_refl _) _
  have HB0 := hide hb0
  have hc0 : (w.alloc (.cells #[.string px, .string py] 44)).cell? ⟨w.heap.size, 0, none⟩ = some (.string px) := by simp
  have hc1 : (w.alloc (.cells #[.string px, .string py] 44)).cell? ⟨w.heap.size, 1, none⟩ = some (.string py) := by simp
  have HC0 := hide hc0
  have HC1 := hide hc1
  have hw0 : w.heap.size < (w.alloc (.cells #[.string px, .string py] 44)).heap.size := by simp
  have HW0 := hide hw0
  clear hc0 hc1 hw0
  by_cases hg : GoodS ls
  · have C1 := hide (goodSeries_any a ls n cap _ hn (hs.below hb0) hn2 hst hls true (iff_of_true rfl hg))
    by_cases hok : okL (px, py)
    · have C2 := hide (fun w => goodLabel_any px py w hx hy true (iff_of_true rfl hok))
      have C3 := hide (fun w (hs : SlS w a ls) => seriesWith_any a ls n cap px py w hn hs hn2 hls)
      have hr' : r = some (hav ls (px, py) n) := by rw [hr]; unfold postsRes; rw [if_pos ⟨hg, hok⟩, hn]
      have HR := hide hr'
      have HS := hide hs
      clear hr hr' hg hok hx hy hn hs hst hls hb0
      go_enter Try.func25, Try.ntmps25
      go_wp2_with fail
      refine C1.out.mono ?_
      rintro e w1 ⟨rfl, hb1⟩
      have hd0 := (hb1.cell (p := ⟨w.heap.size, 0, none⟩) HW0.out).trans HC0.out
      have hd1 := (hb1.cell (p := ⟨w.heap.size, 1, none⟩) HW0.out).trans HC1.out
      have B1 := hide (HB0.out.trans (hb1.mono HB0.out.size))
      have hw1 := Nat.lt_of_lt_of_le HW0.out hb1.size
      have HD0 := hide hd0
      have HD1 := hide hd1
      clear hb1
      go_wp2_with fail
      refine (C2.out _).mono ?_
      rintro e w2 ⟨rfl, hb2⟩
      have hd0 := (hb2.cell (p := ⟨w.heap.size, 0, none⟩) hw1).trans HD0.out
      have hd1 := (hb2.cell (p := ⟨w.heap.size, 1, none⟩) hw1).trans HD1.out
      have B2 := hide (B1.out.trans (hb2.mono B1.out.size))
      clear hb2
      go_wp2_with fail
      refine (C3.out _ (HS.out.below B2.out)).mono ?_
      rintro e w3 ⟨v, rfl, ho, hb⟩
      have HO := hide (own_baseT ho B2.out.size)
      have HB := hide (B2.out.trans (hb.mono B2.out.size))
      obtain ⟨a5, c5, rfl⟩ := own_shapeT ho
      clear ho hb
      go_wp2
      go_ret2
      exact ⟨_, by rw [HR.out]; rfl, by rw [HR.out]; exact HO.out, HB.out⟩
    · have C2 := hide (fun w => goodLabel_any px py w hx hy false (iff_of_false (by simp) hok))
      have hr' : r = none := by rw [hr]; unfold postsRes; rw [if_neg (fun h => hok h.2)]
      subst hr'
      clear hr hg hok hx hy hn hs hst hls hb0
      go_enter Try.func25, Try.ntmps25
      go_wp2_with fail
      refine C1.out.mono ?_
      rintro e w1 ⟨rfl, hb1⟩
      have hd0 := (hb1.cell (p := ⟨w.heap.size, 0, none⟩) HW0.out).trans HC0.out
      have hd1 := (hb1.cell (p := ⟨w.heap.size, 1, none⟩) HW0.out).trans HC1.out
      have B1 := hide (HB0.out.trans (hb1.mono HB0.out.size))
      clear hb1
      go_wp2_with fail
      refine (C2.out _).mono ?_
      rintro e w2 ⟨rfl, hb2⟩
      have B2 := hide (B1.out.trans (hb2.mono B1.out.size))
      clear hb2
      go_wp2
      go_ret2
      exact ⟨_, rfl, World.ownsRow_nil _ _ _ _, B2.out⟩
  · have C1 := hide (goodSeries_any a ls n cap _ hn (hs.below hb0) hn2 hst hls false (iff_of_false (by simp) hg))
    have hr' : r = none := by rw [hr]; unfold postsRes; rw [if_neg (fun h => hg h.1)]
    subst hr'
    clear hr hg hx hy hn hs hst hls hb0
    go_enter Try.func25, Try.ntmps25
    go_wp2_with fail
    refine C1.out.mono ?_
    rintro e w1 ⟨rfl, hb1⟩
    have B1 := hide (HB0.out.trans (hb1.mono HB0.out.size))
    clear hb1
    go_wp2
    go_ret2
    exact ⟨_, rfl, World.ownsRow_nil _ _ _ _, B1.out⟩

set_option maxRecDepth 100000 in
set_option maxHeartbeats 2000000 in
theorem specPostsOf_any (a : Option Addr) (ls : List (List Lb)) (n cap : Nat) (px py : ByteArray) (w : World) (hn : ls.length = n) (hs : SlS w a ls) (hn2 : n ≤ 1048576) (hst : TxS ls) (hls : ∀ i, i < ls.length → (ls.getD i []).length ≤ 1048576) (hx : px.size ≤ 9223372036854775807) (hy : py.size ≤ 9223372036854775807) (r : Option (List Int)) (hr : r = postsRes ls (px, py)) :
    Calls Try.prog 26 #[.slice a n cap, .agg #[.string px, .string py]] w fun e w' => RetL w r e w' := by
  have hb0 : Below w.heap.size w (w.alloc (.cells #[.string px, .string py] 44)) := (Below.refl _ _).alloc (Nat.le_refl _) _
  have HB0 := hide hb0
  have hc0 : (w.alloc (.cells #[.string px, .string py] 44)).cell? ⟨w.heap.size, 0, none⟩ = some (.string px) := by simp
  have hc1 : (w.alloc (.cells #[.string px, .string py] 44)).cell? ⟨w.heap.size, 1, none⟩ = some (.string py) := by simp
  have HC0 := hide hc0
  have HC1 := hide hc1
  have hw0 : w.heap.size < (w.alloc (.cells #[.string px, .string py] 44)).heap.size := by simp
  have HW0 := hide hw0
  clear hc0 hc1 hw0
  by_cases hg : GoodS ls
  · have C1 := hide (l4Series_any a ls n cap _ hn (hs.below hb0) hn2 hst hls true (iff_of_true rfl hg))
    by_cases hok : okL (px, py)
    · have C2 := hide (fun w => l4Label_any px py w hx hy true (iff_of_true rfl hok))
      have C3 := hide (fun w (hs : SlS w a ls) => l4Posts_any a ls n cap px py w hn hs hn2 hg.2)
      have hr' : r = some (hav ls (px, py) n) := by rw [hr]; unfold postsRes; rw [if_pos ⟨hg, hok⟩, hn]
      have HR := hide hr'
      have HS := hide hs
      clear hr hr' hg hok hx hy hn hs hst hls hb0
      go_enter Try.func26, Try.ntmps26
      go_wp2_with fail
      refine C1.out.mono ?_
      rintro e w1 ⟨rfl, hb1⟩
      have hd0 := (hb1.cell (p := ⟨w.heap.size, 0, none⟩) HW0.out).trans HC0.out
      have hd1 := (hb1.cell (p := ⟨w.heap.size, 1, none⟩) HW0.out).trans HC1.out
      have B1 := hide (HB0.out.trans (hb1.mono HB0.out.size))
      have hw1 := Nat.lt_of_lt_of_le HW0.out hb1.size
      have HD0 := hide hd0
      have HD1 := hide hd1
      clear hb1
      go_wp2_with fail
      refine (C2.out _).mono ?_
      rintro e w2 ⟨rfl, hb2⟩
      have hd0 := (hb2.cell (p := ⟨w.heap.size, 0, none⟩) hw1).trans HD0.out
      have hd1 := (hb2.cell (p := ⟨w.heap.size, 1, none⟩) hw1).trans HD1.out
      have B2 := hide (B1.out.trans (hb2.mono B1.out.size))
      clear hb2
      go_wp2_with fail
      refine (C3.out _ (HS.out.below B2.out)).mono ?_
      rintro e w3 ⟨v, rfl, ho, hb⟩
      have HO := hide (own_baseT ho B2.out.size)
      have HB := hide (B2.out.trans (hb.mono B2.out.size))
      obtain ⟨a5, c5, rfl⟩ := own_shapeT ho
      clear ho hb
      go_wp2
      go_ret2
      exact ⟨_, by rw [HR.out]; rfl, by rw [HR.out]; exact HO.out, HB.out⟩
    · have C2 := hide (fun w => l4Label_any px py w hx hy false (iff_of_false (by simp) hok))
      have hr' : r = none := by rw [hr]; unfold postsRes; rw [if_neg (fun h => hok h.2)]
      subst hr'
      clear hr hg hok hx hy hn hs hst hls hb0
      go_enter Try.func26, Try.ntmps26
      go_wp2_with fail
      refine C1.out.mono ?_
      rintro e w1 ⟨rfl, hb1⟩
      have hd0 := (hb1.cell (p := ⟨w.heap.size, 0, none⟩) HW0.out).trans HC0.out
      have hd1 := (hb1.cell (p := ⟨w.heap.size, 1, none⟩) HW0.out).trans HC1.out
      have B1 := hide (HB0.out.trans (hb1.mono HB0.out.size))
      clear hb1
      go_wp2_with fail
      refine (C2.out _).mono ?_
      rintro e w2 ⟨rfl, hb2⟩
      have B2 := hide (B1.out.trans (hb2.mono B1.out.size))
      clear hb2
      go_wp2
      go_ret2
      exact ⟨_, rfl, World.ownsRow_nil _ _ _ _, B2.out⟩
  · have C1 := hide (l4Series_any a ls n cap _ hn (hs.below hb0) hn2 hst hls false (iff_of_false (by simp) hg))
    have hr' : r = none := by rw [hr]; unfold postsRes; rw [if_neg (fun h => hg h.1)]
    subst hr'
    clear hr hg hx hy hn hs hst hls hb0
    go_enter Try.func26, Try.ntmps26
    go_wp2_with fail
    refine C1.out.mono ?_
    rintro e w1 ⟨rfl, hb1⟩
    have B1 := hide (HB0.out.trans (hb1.mono HB0.out.size))
    clear hb1
    go_wp2
    go_ret2
    exact ⟨_, rfl, World.ownsRow_nil _ _ _ _, B1.out⟩
end Go.Proofs.Ythicdnkngpiccab.L4
