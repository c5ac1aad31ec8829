/-
  Contracts: impl.valueOf, impl.ValuesOf's closure, impl.eachAs over it, impl.ValuesOf: of each total what the op tells, in new memory.
-/
import Derived.Test.YtohcjafklfemfamL14TValM
import Derived.Test.YtohcjafklfemfamL14TGood
import Derived.Maps.AppendAt
namespace Go.Proofs.Ytohcjafklfemfam.L14T
open Go.RowKit L1 L3
set_option linter.unusedVariables false

set_option maxRecDepth 100000 in
set_option maxHeartbeats 400000 in
theorem valueOf_any (a : Option Addr) (n c : Nat) (l : List Lb) (v0 v1 v2 v3 op : Int) (w : World) (hop : okOp op) :
    Calls Try.prog 53 #[.agg #[.slice a n c, .int .i64 v0, .int .i64 v1, .int .i64 v2, .int .i64 v3], .int .i64 op] w fun e w' => e = .returned (.int .i64 (valOf op ⟨l, v0, v1, v2, v3⟩)) ∧ Below w.heap.size w w' := by
  rcases hop with rfl | rfl | rfl | rfl
  · go_enter Try.func53, Try.ntmps53
    go_wp2
    go_ret
    exact ⟨rfl, (Below.refl _ _).alloc (Nat.le_refl _) _⟩
  · go_enter Try.func53, Try.ntmps53
    go_wp2
    go_ret
    exact ⟨rfl, (Below.refl _ _).alloc (Nat.le_refl _) _⟩
  · go_enter Try.func53, Try.ntmps53
    go_wp2
    go_ret
    exact ⟨rfl, (Below.refl _ _).alloc (Nat.le_refl _) _⟩
  · go_enter Try.func53, Try.ntmps53
    go_wp2
    go_ret
    exact ⟨rfl, (Below.refl _ _).alloc (Nat.le_refl _) _⟩
set_option maxRecDepth 100000 in
set_option maxHeartbeats 400000 in
theorem valClo_any (a : Option Addr) (n c : Nat) (l : List Lb) (v0 v1 v2 v3 op : Int) (pb : Nat) (w : World) (hop : okOp op) (hp : w.cell? ⟨pb, 0, none⟩ = some (.int .i64 op)) :
    Calls Try.prog 52 #[.agg #[.slice a n c, .int .i64 v0, .int .i64 v1, .int .i64 v2, .int .i64 v3], .pointer (some ⟨pb, 0, none⟩)] w fun e w' => e = .returned (.int .i64 (valOf op ⟨l, v0, v1, v2, v3⟩)) ∧ Below w.heap.size w w' := by
  have CV := hide (fun w => valueOf_any a n c l v0 v1 v2 v3 op w hop)
  obtain ⟨z, hz⟩ : ∃ z, z = valOf op ⟨l, v0, v1, v2, v3⟩ := ⟨_, rfl⟩
  rw [← hz] at CV ⊢
  have hb0 := (Below.refl w.heap.size w).alloc (Nat.le_refl _) (.cells #[.slice a n c, .int .i64 v0, .int .i64 v1, .int .i64 v2, .int .i64 v3] 60 (0, 0))
  have hp1 := (hb0.cell (p := ⟨pb, 0, none⟩) (blk_lt hp)).trans hp
  have B0 := hide hb0
  clear hz hop hb0 hp
  go_enter Try.func52, Try.ntmps52
  go_wp2_with fail
  refine (CV.out _).mono ?_
  rintro e w1 ⟨rfl, hb⟩
  have B1 := hide (B0.out.trans (hb.mono B0.out.size))
  clear hb
  go_wp2
  go_ret
  exact ⟨rfl, B1.out⟩
set_option maxRecDepth 100000 in
set_option maxHeartbeats 4000000 in
theorem eachVals_any (a : Option Addr) (L : List Rw) (n cap : Nat) (op : Int) (pb g : Nat) (w : World) (hn : L.length = n) (hn2 : n ≤ 1048576) (hs : SlR w a L) (hop : okOp op) (hp : w.cell? ⟨pb, 0, none⟩ = some (.int .i64 op)) (hq : w.cell? ⟨g, 0, none⟩ = some (.slice a n cap)) :
    Calls Try.prog 51 #[.func (.func 52) #[] #[.pointer (some ⟨pb, 0, none⟩)], .slice (some ⟨g, 0, none⟩) 1 1] w fun e w' => ∃ v, e = .returned v ∧ w'.ownsRow w.heap.size 3 1 v n (vals op L) ∧ Below w.heap.size w w' := by
  have HS := hide hs
  have HN := hide hn
  have HOP := hide hop
  have HP := hide hp
  have HQ := hide hq
  obtain ⟨i1, hi1, hy0, hy1, hy2⟩ := info_parts info_int
  clear hs hn hop hp hq
  go_enter Try.func51, Try.ntmps51
  go_wp2
  go_loopw [5, 12] (fun ot i wr => ∃ c : Nat, ((i = .int .i64 0 ∧ c = 0) ∨ (i = .int .i64 1 ∧ c = n)) ∧ wr.ownsRow w.heap.size 3 1 ot c (vals op (L.take c)) ∧ Below w.heap.size w wr) (fun _ i _ => 1 - (intOf i).toNat)
  case atStart => exact ⟨0, .inl ⟨rfl, rfl⟩, by rw [vals_zero]; exact World.ownsRow_nil _ _ _ _, Below.refl _ _⟩
  case round =>
    obtain ⟨c, hcc, hown, hbel⟩ := hrel
    obtain ⟨oa, ocap, rfl⟩ := own_shapeV hown
    rcases hcc with ⟨rfl, rfl⟩ | ⟨rfl, hc⟩
    · have h01 : (0 : Int) < 1 := by omega
      have hq2 := (hbel.cell (p := ⟨g, 0, none⟩) (blk_lt HQ.out)).trans HQ.out
      have HROW0 := hide hown
      have B00 := hide hbel
      clear hown hbel
      go_wp2
      go_loopw [5, 18] (fun ot i wr => ∃ k : Nat, k ≤ n ∧ i = .int .i64 k ∧ wr.ownsRow w.heap.size 3 1 ot k (vals op (L.take k)) ∧ Below w.heap.size w wr) (fun _ i _ => n - (intOf i).toNat)
      case atStart => exact ⟨0, Nat.zero_le _, rfl, HROW0.out, B00.out⟩
      case round =>
        obtain ⟨k, hk, rfl, hown, hbel⟩ := hrel
        obtain ⟨oa, ocap, rfl⟩ := own_shapeV hown
        by_cases hlt : k < n
        · have hkx : k < L.length := by rw [HN.out]; exact hlt
          obtain ⟨b, off, rfl, ai, ci, hat⟩ := HS.out.below hbel k hkx
          have hvt := vals_take op L k hkx
          obtain ⟨x0, x1, x2, x3, x4, t1⟩ := hat
          obtain ⟨p, hpp⟩ : ∃ p, p = gr L k := ⟨_, rfl⟩
          rw [← hpp] at x0 x1 x2 x3 x4 hvt
          obtain ⟨x, v0, v1, v2, v3⟩ := p
          simp only at x0 x1 x2 x3 x4
          obtain ⟨m, hm2⟩ : ∃ m, m = x.length := ⟨_, rfl⟩
          rw [← hm2] at x0
          have hltI : (k : Int) < (n : Int) := by omega
          have hsz := hbel.size
          have hba := hbel.alloc hsz (.cells #[.slice ai m ci, .int .i64 v0, .int .i64 v1, .int .i64 v2, .int .i64 v3] 60 (0, 0))
          have CC := hide (valClo_any ai m ci x v0 v1 v2 v3 op pb _ HOP.out ((hba.cell (p := ⟨pb, 0, none⟩) (blk_lt HP.out)).trans HP.out))
          obtain ⟨z, hz⟩ : ∃ z, z = valOf op ⟨x, v0, v1, v2, v3⟩ := ⟨_, rfl⟩
          rw [← hz] at CC hvt
          have HVT := hide hvt
          have HROW := hide (hown.alloc (.cells #[.slice ai m ci, .int .i64 v0, .int .i64 v1, .int .i64 v2, .int .i64 v3] 60 (0, 0)))
          have B0 := hide hba
          clear hpp t1 hm2 hvt hz hown hbel hkx hba
          go_wp2_with fail
          go_at_call 52
          refine CC.out.mono ?_
          rintro e w1 ⟨rfl, hb1⟩
          have O1 := hide (own_belowR HROW.out hb1)
          have B1 := hide (B0.out.trans (hb1.mono B0.out.size))
          have hsz1 := B1.out.size
          clear hb1
          go_wp2_with (first
            | (at_builtin; refine wpList_append_own _ rfl _ _ 37 rfl w.heap.size 3 i1 (.int .i64 0) 1 8 Try.underlying37 hi1 hy0 hy1 hy2 rfl (by decide) _ _ _ rfl (O1.out.alloc _) ⟨w1.heap.size, 0, none⟩ 1 1 [.int .i64 z] rfl rfl (cell_oneV _ _ _) (by intro u hu; simp at hu; subst hu; rfl) (by unfold maxLen; omega) (by omega) (by simp; omega) ?_)
            | go_in)
          intro v6 w6 hown6 hgrow6 _
          have hb6 := B1.out.trans (((Below.refl _ _).alloc hsz1 _).grown hgrow6 (by simp; omega) (fun g hg => (O1.out.lt g hg).1))
          have hown7 := hide (show w6.ownsRow w.heap.size 3 1 v6 (k + 1) (vals op (L.take (k + 1))) by rw [HVT.out]; exact hown6)
          clear hown6 hgrow6
          go_wp2
          go_roundw
          case rel => exact ⟨k + 1, by omega, by go_num, hown7.out, hb6⟩
          case measure => simp [intOf]; omega
        · obtain rfl : k = n := by omega
          have hltI : ¬ (k : Int) < (k : Int) := by omega
          have HROW := hide hown
          have B0 := hide hbel
          clear hown hbel
          go_wp2
          go_roundw
          case rel => exact ⟨k, .inr ⟨by first | rfl | go_num, rfl⟩, HROW.out, B0.out⟩
          case measure => simp [intOf]
    · subst hc
      have hltI : ¬ (1 : Int) < 1 := by omega
      have e1 : L.take c = L := List.take_of_length_le (by rw [HN.out]; exact Nat.le_refl _)
      rw [e1] at hown
      have HROW := hide hown
      have B0 := hide hbel
      clear e1 hown hbel
      go_wp2
      go_ret
      exact ⟨_, rfl, HROW.out, B0.out⟩
open Classical in
set_option maxRecDepth 100000 in
set_option maxHeartbeats 1000000 in
theorem implValuesOf_any (a : Option Addr) (L : List Rw) (n cap : Nat) (op : Int) (w : World) (hn : L.length = n) (hm : n ≤ 1048576) (hs : SlR w a L) (hst : TxR L) (hlx : ∀ j, j < L.length → (gr L j).l.length ≤ 1048576) (r : Option (List Int)) (hr : r = valRes L op) :
    Calls Try.prog 22 #[.slice a n cap, .int .i64 op] w fun e w' => RetI w r e w' := by
  have HS := hide hs
  by_cases hg : GoodT L
  · have CG := hide (fun w hs => implGoodTotals_any a L n cap w hn hm hs hst hlx true (by simp [hg]))
    by_cases h1 : op < 1
    · have hr' : r = none := by rw [hr]; unfold valRes; rw [if_neg (fun h => by have := (okOp_iff op).1 h.2; omega)]
      have HR := hide hr'
      clear hr hr' hg hs hst hlx hn
      go_enter Try.func22, Try.ntmps22
      go_wp2_with fail
      refine (CG.out _ (HS.out.below ((Below.refl _ _).alloc (Nat.le_refl _) _))).mono ?_
      rintro e w1 ⟨rfl, hb1⟩
      have c0 : w1.cell? ⟨w.heap.size, 0, none⟩ = some (.int .i64 op) := (hb1.cell (p := ⟨w.heap.size, 0, none⟩) (by simp)).trans (by simp)
      have B1 := hide (((Below.refl w.heap.size w).alloc (Nat.le_refl _) (.cells #[.int .i64 op] 3 (0, 0))).trans (hb1.mono (by simp)))
      clear hb1
      go_wp2
      go_ret2
      exact ⟨_, by rw [HR.out]; rfl, by rw [HR.out]; exact World.ownsRow_nil _ _ _ _, B1.out⟩
    by_cases h4 : 4 < op
    · have hr' : r = none := by rw [hr]; unfold valRes; rw [if_neg (fun h => by have := (okOp_iff op).1 h.2; omega)]
      have HR := hide hr'
      clear hr hr' hg hs hst hlx hn
      go_enter Try.func22, Try.ntmps22
      go_wp2_with fail
      refine (CG.out _ (HS.out.below ((Below.refl _ _).alloc (Nat.le_refl _) _))).mono ?_
      rintro e w1 ⟨rfl, hb1⟩
      have c0 : w1.cell? ⟨w.heap.size, 0, none⟩ = some (.int .i64 op) := (hb1.cell (p := ⟨w.heap.size, 0, none⟩) (by simp)).trans (by simp)
      have B1 := hide (((Below.refl w.heap.size w).alloc (Nat.le_refl _) (.cells #[.int .i64 op] 3 (0, 0))).trans (hb1.mono (by simp)))
      clear hb1
      go_wp2
      go_ret2
      exact ⟨_, by rw [HR.out]; rfl, by rw [HR.out]; exact World.ownsRow_nil _ _ _ _, B1.out⟩
    have hop : okOp op := (okOp_iff op).2 ⟨by omega, by omega⟩
    have hr' : r = some (L.map (valOf op)) := by rw [hr]; unfold valRes; rw [if_pos ⟨hg, hop⟩]
    have HR := hide hr'
    have HN := hide hn
    have CK := hide (fun g pb w hs hp hq => eachVals_any a L n cap op pb g w hn hm hs hop hp hq)
    clear hr hr' hg hs hst hlx hop hn
    go_enter Try.func22, Try.ntmps22
    go_wp2_with fail
    refine (CG.out _ (HS.out.below ((Below.refl _ _).alloc (Nat.le_refl _) _))).mono ?_
    rintro e w1 ⟨rfl, hb1⟩
    have c0 : w1.cell? ⟨w.heap.size, 0, none⟩ = some (.int .i64 op) := (hb1.cell (p := ⟨w.heap.size, 0, none⟩) (by simp)).trans (by simp)
    have B1 := hide (((Below.refl w.heap.size w).alloc (Nat.le_refl _) (.cells #[.int .i64 op] 3 (0, 0))).trans (hb1.mono (by simp)))
    clear hb1
    go_wp2_with fail
    have BA := hide ((Below.refl w1.heap.size w1).alloc (Nat.le_refl _) (.cells #[.slice a n cap] 25))
    refine (CK.out w1.heap.size w.heap.size _ (HS.out.below (B1.out.trans (BA.out.mono B1.out.size))) ((BA.out.cell (p := ⟨w.heap.size, 0, none⟩) (blk_lt c0)).trans c0) (by simp)).mono ?_
    rintro e w2 ⟨v, rfl, ho, hb⟩
    have HO := hide (own_baseR ho (Nat.le_trans B1.out.size BA.out.size))
    have B2 := hide ((B1.out.trans (BA.out.mono B1.out.size)).trans (hb.mono (Nat.le_trans B1.out.size BA.out.size)))
    clear ho hb
    go_wp2
    go_ret2
    exact ⟨v, by rw [HR.out]; rfl, by rw [HR.out]; simp only [Option.getD_some, List.length_map]; rw [HN.out, ← vals_ints]; exact HO.out, B2.out⟩
  · have CG := hide (fun w hs => implGoodTotals_any a L n cap w hn hm hs hst hlx false (by simp [hg]))
    have hr' : r = none := by rw [hr]; unfold valRes; rw [if_neg (fun h => hg h.1)]
    have HR := hide hr'
    clear hr hr' hg hs hst hlx hn
    go_enter Try.func22, Try.ntmps22
    go_wp2_with fail
    refine (CG.out _ (HS.out.below ((Below.refl _ _).alloc (Nat.le_refl _) _))).mono ?_
    rintro e w1 ⟨rfl, hb1⟩
    have c0 : w1.cell? ⟨w.heap.size, 0, none⟩ = some (.int .i64 op) := (hb1.cell (p := ⟨w.heap.size, 0, none⟩) (by simp)).trans (by simp)
    have B1 := hide (((Below.refl w.heap.size w).alloc (Nat.le_refl _) (.cells #[.int .i64 op] 3 (0, 0))).trans (hb1.mono (by simp)))
    clear hb1
    go_wp2
    go_ret2
    exact ⟨_, by rw [HR.out]; rfl, by rw [HR.out]; exact World.ownsRow_nil _ _ _ _, B1.out⟩
end Go.Proofs.Ytohcjafklfemfam.L14T
