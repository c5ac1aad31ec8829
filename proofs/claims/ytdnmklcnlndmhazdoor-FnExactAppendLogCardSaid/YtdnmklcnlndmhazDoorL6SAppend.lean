/-
  Contract: spec.AppendLog.
-/
import Derived.Test.YtdnmklcnlndmhazDoorL6SAppP
import Derived.Test.YtdnmklcnlndmhazDoorL6SAppF
import Derived.Test.YtdnmklcnlndmhazDoorL6SAppM
import Derived.Test.YtdnmklcnlndmhazDoorL6SGood
namespace Go.Proofs.YtdnmklcnlndmhazDoor.L6
open Go.RowKit L1
set_option linter.unusedVariables false

open Classical in
theorem l6Append_all (g : Nat) (L : List Pc) (M : List PV) (n c base : Nat) (B : Int) (r : ByteArray) (w : World) (ho : OwC w base (.slice (some ⟨g, 0, none⟩) n c) n M) (hM : pcs M = L) (hg : GoodG L B) (hbase : base ≤ w.heap.size) (hr2 : r.size ≤ 9223372036854775807) (L' : List Pc) (B' : Int) (ok : Bool) (hap : AppIs L B r L' B' ok) : Calls Tryd.prog 34 #[.agg #[.slice (some ⟨g, 0, none⟩) n c, .int .i64 B], .string r] w fun e w' => ∃ a' k c', e = .returned (.tuple #[.agg #[.slice a' k c', .int .i64 B], .bool ok]) ∧ Hid (ok = true → k = L'.length ∧ SlC w' a' L' ∧ B' = B) ∧ Below base w w' := by
  have hn : L.length = n := by rw [← hM]; simp [ho.len]
  by_cases h20 : r.size ≤ 20
  · by_cases h60 : lastEnd L n - (gc L 0).f = 60
    · obtain ⟨rfl, _, _⟩ := hap.no (fun h => h.2.2 (by rw [hn]; exact h60))
      refine (l6Append_60 g L M n c base B r w ho hM hg hbase h20 h60).mono ?_
      rintro e w' ⟨rfl, hb⟩
      exact ⟨_, _, _, rfl, fun h => (by cases h), hb⟩
    · have hpre : AppPre L B r := ⟨hg, h20, by rw [hn]; exact h60⟩
      by_cases hf : AppFits L r
      · obtain ⟨rfl, rfl, rfl⟩ := hap.put hpre hf
        refine (l6Append_put g L M n c base B' r w ho hM hg hbase h20 h60 hf).mono ?_
        rintro e w' ⟨rfl, hs, hb⟩
        exact ⟨_, _, _, rfl, fun _ => ⟨by simp [hn], by rw [hn]; exact hs, rfl⟩, hb⟩
      · by_cases hn20 : n = 20
        · obtain ⟨rfl, _, _⟩ := hap.full hpre hf (by rw [hn]; exact hn20)
          refine (l6Append_full g L M n c base B r w ho hM hg hbase h20 h60 hf hn20).mono ?_
          rintro e w' ⟨rfl, hb⟩
          exact ⟨_, _, _, rfl, fun h => (by cases h), hb⟩
        · obtain ⟨rfl, rfl, rfl⟩ := hap.more hpre hf (by rw [hn]; exact hn20)
          refine (l6Append_more g L M n c base B' r w ho hM hg hbase h20 h60 hf hn20).mono ?_
          rintro e w' ⟨a', c', rfl, hs, hb⟩
          exact ⟨_, _, _, rfl, fun _ => ⟨by simp [hn], by rw [hn]; exact hs, rfl⟩, hb⟩
  · obtain ⟨rfl, _, _⟩ := hap.no (fun h => h20 h.2.1)
    refine (l6Append_long g L M n c base B r w ho hM hg hbase (by omega) hr2).mono ?_
    rintro e w' ⟨rfl, hb⟩
    exact ⟨_, _, _, rfl, fun h => (by cases h), hb⟩

open Classical in
set_option maxRecDepth 100000 in
set_option maxHeartbeats 4000000 in
theorem specAppend_any (a : Option Addr) (L : List Pc) (n cap : Nat) (B : Int) (r : ByteArray) (w : World) (hn : L.length = n) (hm : n ≤ 9223372036854775807) (hs : SlC w a L) (hst : SzC L) (hr2 : r.size ≤ 9223372036854775807) (L' : List Pc) (B' : Int) (ok : Bool) (hap : AppIs L B r L' B' ok) :
    Calls Tryd.prog 13 #[.agg #[.slice a n cap, .int .i64 B], .string r] w (RetL w L' B' ok) := by
  obtain ⟨bk, hbk⟩ : ∃ bk : Bool, bk = true ↔ GoodG L B := ⟨decide (GoodG L B), by simp⟩
  have C1 := hide (fun wx (hb : Below w.heap.size w wx) => specGoodLog_any a L n cap B wx hn hm (hs.below hb) hst bk hbk)
  cases bk with
  | false =>
    obtain ⟨rfl, rfl, rfl⟩ := hap.no (fun h => absurd (hbk.2 h.1) (by simp))
    clear hap hs hn hst hbk
    go_enter Tryd.func13, Tryd.ntmps13
    go_wp2_with fail
    refine (C1.out _ (((Below.refl _ _).alloc (Nat.le_refl _) _).alloc (by simp) _)).mono ?_
    rintro e w1 ⟨rfl, hb1⟩
    obtain ⟨z0, z1, z2, z3⟩ := blkp ((hb1.block (w.heap.size + 1) (by simp)).trans (blk_second w _ _))
    have B1 := hide ((((Below.refl w.heap.size w).alloc (Nat.le_refl _) (.cells #[.slice a n cap, .int .i64 B] 29 (0, 0))).alloc (by simp) (.cells #[.slice none 0 0, .int .i64 0] 29 (0, 0))).trans (hb1.mono (by simp; omega)))
    clear hb1
    go_wp2
    refine bodyPost_ret (v := .tuple #[.agg #[.slice none 0 0, .int .i64 0], .bool false]) (by simp [results, Tryd.f13, go_sem, z0, z1]) rfl (retL_none ((B1.out.setCell (p := ⟨_, _, none⟩) (Nat.le_succ _) _).setCell (p := ⟨_, _, none⟩) (Nat.le_succ _) _))
  | true =>
    have hg := hbk.1 rfl
    have hn1 : 1 ≤ n := by have := hg.one; omega
    have hn20 : n ≤ 20 := by have := hg.many; omega
    have C2 := hide (fun wx (hb : Below w.heap.size w wx) => l6Own_any a L n cap B wx hn hn20 (hs.below hb) (fun i hi => by have hgd := (hg.ps i (by omega)).1; rw [hgd.2.2]; exact ix_len60 hgd.1))
    have hfew := app_few hap
    have HS := hide hs
    have HN := hide hn
    have HG := hide hg
    have HA := hide hap
    clear hs hn hg hst hbk hap
    go_enter Tryd.func13, Tryd.ntmps13
    go_wp2_with fail
    refine (C1.out _ (((Below.refl _ _).alloc (Nat.le_refl _) _).alloc (by simp) _)).mono ?_
    rintro e w0 ⟨rfl, hb1⟩
    have G1 : Hid (w0.heap[w.heap.size + 1]? = some (.cells #[.slice none 0 0, .int .i64 0] 29 (0, 0))) := (hb1.block (w.heap.size + 1) (by simp)).trans (blk_second w _ _)
    have B1 := hide ((((Below.refl w.heap.size w).alloc (Nat.le_refl _) (.cells #[.slice a n cap, .int .i64 B] 29 (0, 0))).alloc (by simp) (.cells #[.slice none 0 0, .int .i64 0] 29 (0, 0))).trans (hb1.mono (by simp; omega)))
    obtain ⟨k0, k1, _, _⟩ := blkp ((hb1.block w.heap.size (by simp only [World.size_alloc]; omega)).trans (blk_first w _ _))
    have hz1 : w.heap.size + 1 < w0.heap.size := (Array.getElem?_eq_some_iff.1 G1.out).1
    clear hb1
    go_wp2_with fail
    refine (C2.out _ B1.out).mono ?_
    rintro e w1 ⟨a1, cc, rfl, M, hM, ho, hb2⟩
    obtain ⟨g, rfl⟩ : ∃ g, a1 = some ⟨g, 0, none⟩ := by
      rcases ho.row.2 with ⟨hv, h0⟩ | ⟨g, cap, cur, hv, _⟩
      · omega
      · cases hv
        exact ⟨g, rfl⟩
    have B2 := hide (B1.out.trans (hb2.mono B1.out.size))
    have hz2 := hb2.size
    have G2 : Hid (w1.heap[w.heap.size + 1]? = some (.cells #[.slice none 0 0, .int .i64 0] 29 (0, 0))) := (hb2.block (w.heap.size + 1) hz1).trans G1.out
    have C3 := hide (l6Append_all g L M n cc w0.heap.size B r w1 ho hM HG.out hz2 hr2 L' B' ok HA.out)
    clear hb2 ho hM k0 k1
    go_wp2_with fail
    refine C3.out.mono ?_
    rintro e w2 ⟨a2, k2, c2, rfl, hok, hb3⟩
    have B3 := hide (B2.out.trans (hb3.mono (by omega)))
    have hz3 := hb3.size
    have G3 : Hid (w2.heap[w.heap.size + 1]? = some (.cells #[.slice none 0 0, .int .i64 0] 29 (0, 0))) := (hb3.block (w.heap.size + 1) hz1).trans G2.out
    have HOK := hide hok.out
    clear hb3 hok C3
    cases ok with
    | false =>
      have hno : L' = [] ∧ B' = 0 := by
        by_cases hp : AppPre L B r
        · by_cases hf : AppFits L r
          · have := (HA.out.put hp hf).1; cases this
          · by_cases h20 : L.length = 20
            · exact (HA.out.full hp hf h20).2
            · have := (HA.out.more hp hf h20).1; cases this
        · exact (HA.out.no hp).2
      obtain ⟨rfl, rfl⟩ := hno
      obtain ⟨z0, z1, z2, z3⟩ := blkp ((((Below.refl w2.heap.size w2).alloc (Nat.le_refl _) (.cells #[.slice a2 k2 c2, .int .i64 B] 29 (0, 0))).block (w.heap.size + 1) (by omega)).trans G3.out)
      have B4 := hide (B3.out.alloc B3.out.size (.cells #[.slice a2 k2 c2, .int .i64 B] 29 (0, 0)))
      go_wp2
      refine bodyPost_ret (v := .tuple #[.agg #[.slice none 0 0, .int .i64 0], .bool false]) (by simp [results, Tryd.f13, go_sem, z0, z1]) rfl (retL_none ((B4.out.setCell (p := ⟨_, _, none⟩) (Nat.le_succ _) _).setCell (p := ⟨_, _, none⟩) (Nat.le_succ _) _))
    | true =>
      obtain ⟨hk, hsl, hB⟩ := HOK.out rfl
      have C5 := hide (fun wx (hb : Below w2.heap.size w2 wx) => l6Own_any a2 L' k2 c2 B wx hk.symm (by omega) (hsl.below hb) (fun i hi => hfew.2 i (by omega)))
      have HK := hide hk
      have HB := hide hB
      clear hk hsl hB
      go_wp2_with fail
      refine (C5.out _ ((Below.refl _ _).alloc (Nat.le_refl _) _)).mono ?_
      rintro e w6 ⟨a6, c6, rfl, M6, hM6, ho6, hb6⟩
      have hal : Below w2.heap.size w2 (w2.alloc (.cells #[.slice a2 k2 c2, .int .i64 B] 29 (0, 0))) := (Below.refl _ _).alloc (Nat.le_refl _) _
      have hb26 := hal.trans (hb6.mono hal.size)
      have BF := hide (B3.out.trans (hb26.mono B3.out.size))
      have HO6 := hide ho6
      have HM6 := hide hM6
      have hals := hal.size
      obtain ⟨z0, z1, z2, z3⟩ := blkp ((hb26.block (w.heap.size + 1) (by omega)).trans G3.out)
      clear hb6 ho6 hM6 hal hb26
      go_wp2
      refine bodyPost_ret (v := .tuple #[.agg #[.slice a6 k2 c6, .int .i64 B], .bool true]) (by simp [results, Tryd.f13, go_sem, z0, z1]) rfl ⟨a6, c6, by rw [HB.out, ← HK.out], M6, HM6.out, ?_, ?_⟩
      · rw [← HK.out]
        exact ((HO6.out.setC ⟨_, _, none⟩ _ (by show w.heap.size + 1 < _; omega)).setC ⟨_, _, none⟩ _ (by show w.heap.size + 1 < _; omega)).base (by omega)
      · exact ((BF.out.setCell (p := ⟨_, _, none⟩) (Nat.le_succ _) _).setCell (p := ⟨_, _, none⟩) (Nat.le_succ _) _)
end Go.Proofs.YtdnmklcnlndmhazDoor.L6
