/-
  What DropBefore answers, and the contract: spec.DropBefore.
  Contract: impl.DropBefore, of logs whose Froms are small enough.
  What a log tells where a record is put behind it, where it is cut and where it is dropped ahead of an offset. Nothing of the program's text is proved here.
  Contracts: impl.RecoverPiece, spec.RecoverPiece.
  Lists of texts in memory. Nothing of the program's text is proved here but closed facts on its types.
  A list of texts that grows, and what is kept meanwhile. Nothing of the program's text is proved here but closed facts on its types.
  Of a log whose end is torn the first records are told; a piece that is recovered is recovered as it is. Nothing of the program's text is proved here.
  Small facts for the laws over logs: what is torn is small; texts that are told, and their front; the new log is good.
-/
import Derived.Test.YtbcljhafdpnjbabDoorBundle6
import Derived.Test.YtbcljhafdpnjbabDoorBundle5
import Derived.Test.YtbcljhafdpnjbabDoorBundle2
import Derived.Test.YtbcljhafdpnjbabDoorBundle4
import Derived.Test.YtbcljhafdpnjbabDoorBundle1
import Derived.Maps.AppendAt
import Derived.Test.YtbcljhafdpnjbabDoorBundle3
namespace Go.Proofs.YtbcljhafdpnjbabDoor.L6
open Go.RowKit L1
set_option linter.unusedVariables false

/-- The pieces that stay where a log is dropped ahead of an offset. -/
def dropW : List Pc → Int → List Pc
  | [], _ => []
  | [p], _ => [p]
  | p :: q :: r, o => if q.f ≤ o then dropW (q :: r) o else p :: q :: r
theorem dropW_step {L : List Pc} {o : Int} {k : Nat} (h : k + 1 < L.length) (hf : (gc L (k + 1)).f ≤ o) : dropW (L.drop (k + 1)) o = dropW (L.drop k) o := by
  have e1 : L.drop k = L[k]'(by omega) :: L.drop (k + 1) := List.drop_eq_getElem_cons (by omega)
  have e2 : L.drop (k + 1) = L[k + 1] :: L.drop (k + 2) := List.drop_eq_getElem_cons h
  rw [e1, e2]
  have hg : gc L (k + 1) = L[k + 1] := by simp [gc, List.getD, List.getElem?_eq_getElem h]
  rw [hg] at hf
  show _ = if _ then _ else _
  rw [if_pos hf]
theorem dropW_stop {L : List Pc} {o : Int} {k : Nat} (hk : k < L.length) (h : k + 1 < L.length → ¬ (gc L (k + 1)).f ≤ o) : dropW (L.drop k) o = L.drop k := by
  have e1 : L.drop k = L[k]'(by omega) :: L.drop (k + 1) := List.drop_eq_getElem_cons (by omega)
  by_cases e : k + 1 < L.length
  · have e2 : L.drop (k + 1) = L[k + 1] :: L.drop (k + 2) := List.drop_eq_getElem_cons e
    rw [e1, e2]
    have hg : gc L (k + 1) = L[k + 1] := by simp [gc, List.getD, List.getElem?_eq_getElem e]
    have hf := h e
    rw [hg] at hf
    show (if _ then _ else _) = _
    rw [if_neg hf]
  · have e2 : L.drop (k + 1) = [] := List.drop_eq_nil_of_le (by omega)
    rw [e1, e2]
    rfl
structure DropIs (L : List Pc) (B o : Int) (L' : List Pc) (B' : Int) (ok : Bool) : Prop where
  yes : CutOk L B o → L' = dropW L o ∧ B' = o ∧ ok = true
  no : ¬ CutOk L B o → L' = [] ∧ B' = 0 ∧ ok = false
open Classical in
theorem drop_is (L : List Pc) (B o : Int) : ∃ L' B' ok, DropIs L B o L' B' ok := by
  by_cases h : CutOk L B o
  · exact ⟨_, _, _, fun _ => ⟨rfl, rfl, rfl⟩, fun h' => absurd h h'⟩
  · exact ⟨_, _, _, fun h' => absurd h' h, fun _ => ⟨rfl, rfl, rfl⟩⟩
theorem slC_drop {w : World} {b off : Nat} {l : List Pc} (h : SlC w (some ⟨b, off, none⟩) l) (p : Nat) : SlC w (some ⟨b, off + p * 3, none⟩) (l.drop p) := fun i hi => by
  have hi' : p + i < l.length := by simp at hi; omega
  obtain ⟨b', off', ha, ai, ci, h1⟩ := h (p + i) hi'
  cases ha
  have e : (l.drop p).getD i eC = l.getD (p + i) eC := by simp [List.getD]
  rw [e]
  have e2 : off + (p + i) * 3 = off + p * 3 + i * 3 := by omega
  rw [e2] at h1
  exact ⟨b, off + p * 3, rfl, ai, ci, h1⟩
theorem slice_oneC (g off m c : Nat) (h : 1 < m) (hc : m ≤ c) : ∀ w, (Instr.slice 23 (.slice (some ⟨g, off, none⟩) m c) (some (.int .i64 1)) none none).run Tryd.prog w = .ok (.slice (some ⟨g, off + 3, none⟩) (m - 1) (c - 1)) w := fun w => by
  rw [run_slice_l w 23 _ m c (by rw [elem_pc]; exact Tryd.underlying23) .i64 1 (by omega) (by omega), run_size_pc]
  have h1 : ¬ c = 1 := by omega
  simp [sliced, h1, Addr.add]
  try (intro h; omega)
theorem own_capC {w : World} {base c n cap : Nat} {t : TypeId} {a : Option Addr} {ys : List Value} (h : w.ownsRow base t c (.slice a n cap) n ys) (h1 : 1 ≤ n) : ∃ g, a = some ⟨g, 0, none⟩ ∧ n ≤ cap := by
  rcases h.2 with h0 | ⟨g, cp, cu, hv, hbg, hg, r⟩
  · simp at h0
    omega
  · cases hv
    exact ⟨g, rfl, r.1⟩

open Classical in
set_option maxRecDepth 100000 in
set_option maxHeartbeats 1000000 in
theorem specDrop_any (a : Option Addr) (L : List Pc) (n cap : Nat) (B o : Int) (w : World) (hn : L.length = n) (hm : n ≤ 9223372036854775807) (hs : SlC w a L) (hst : SzC L) (L' : List Pc) (B' : Int) (ok : Bool) (hr : DropIs L B o L' B' ok) :
    Calls Tryd.prog 20 #[.agg #[.slice a n cap, .int .i64 B], .int .i64 o] w (RetK w L' B' ok) := by
  obtain ⟨bk, hbk⟩ : ∃ bk : Bool, bk = true ↔ GoodG L B := ⟨decide (GoodG L B), by simp⟩
  have C1 := hide (fun wx (hb : Below w.heap.size w wx) => specGoodLog_any a L n cap B wx hn hm (hs.below hb) hst bk hbk)
  have BX := hide (((Below.refl w.heap.size w).alloc (Nat.le_refl _) (.cells #[.slice a n cap, .int .i64 B] 25 (0, 0))).alloc (by simp) (.cells #[.slice none 0 0, .int .i64 0] 25 (0, 0)))
  cases bk with
  | false =>
    obtain ⟨rfl, rfl, rfl⟩ := hr.no (fun h => absurd (hbk.2 h.1) (by simp))
    clear hr hs hn hst hbk
    go_enter Tryd.func20, Tryd.ntmps20
    go_wp2_with fail
    refine (C1.out _ BX.out).mono ?_
    rintro e w1 ⟨rfl, hb1⟩
    obtain ⟨z0, z1, z2, z3⟩ := blkp ((hb1.block (w.heap.size + 1) (by simp)).trans (blk_secondC w _ _))
    have B1 := hide (BX.out.trans (hb1.mono BX.out.size))
    clear hb1
    go_wp2
    refine bodyPost_ret (v := .tuple #[.agg #[.slice none 0 0, .int .i64 0], .bool false]) (by simp [results, Tryd.f20, go_sem, z0, z1]) rfl (retK_none ((B1.out.setCell (p := ⟨_, _, none⟩) (Nat.le_succ _) _).setCell (p := ⟨_, _, none⟩) (Nat.le_succ _) _))
  | true =>
    have hg := hbk.1 rfl
    have hlast := hg.last hn
    have CE := hide (fun wx (hb : Below w.heap.size w wx) => l6End_good a L n cap B wx hn (hs.below hb) hg B)
    obtain ⟨E, hE⟩ : ∃ E, E = lastEnd L n := ⟨_, rfl⟩
    rw [← hE] at CE hlast
    by_cases hB : o < B
    · obtain ⟨rfl, rfl, rfl⟩ := hr.no (fun h => absurd h.2.1 (by omega))
      clear hr hs hn hst hbk hg hlast hE
      go_enter Tryd.func20, Tryd.ntmps20
      go_wp2_with fail
      refine (C1.out _ BX.out).mono ?_
      rintro e w1 ⟨rfl, hb1⟩
      have B1 := hide (BX.out.trans (hb1.mono BX.out.size))
      obtain ⟨z0, z1, z2, z3⟩ := blkp ((hb1.block (w.heap.size + 1) (by simp)).trans (blk_secondC w _ _))
      obtain ⟨k0, k1, _, _⟩ := blkp ((hb1.block w.heap.size (by simp only [World.size_alloc]; omega)).trans (blk_firstC w _ _))
      clear hb1
      go_wp2
      refine bodyPost_ret (v := .tuple #[.agg #[.slice none 0 0, .int .i64 0], .bool false]) (by simp [results, Tryd.f20, go_sem, z0, z1]) rfl (retK_none ((B1.out.setCell (p := ⟨_, _, none⟩) (Nat.le_succ _) _).setCell (p := ⟨_, _, none⟩) (Nat.le_succ _) _))
    · by_cases hO : E < o
      · obtain ⟨rfl, rfl, rfl⟩ := hr.no (fun h => absurd h.2.2 (by omega))
        clear hr hs hn hst hbk hg hlast hE
        go_enter Tryd.func20, Tryd.ntmps20
        go_wp2_with fail
        refine (C1.out _ BX.out).mono ?_
        rintro e w1 ⟨rfl, hb1⟩
        have B1 := hide (BX.out.trans (hb1.mono BX.out.size))
        have G1 : Hid (w1.heap[w.heap.size + 1]? = some (.cells #[.slice none 0 0, .int .i64 0] 25 (0, 0))) := (hb1.block (w.heap.size + 1) (by simp)).trans (blk_secondC w _ _)
        obtain ⟨k0, k1, _, _⟩ := blkp ((hb1.block w.heap.size (by simp only [World.size_alloc]; omega)).trans (blk_firstC w _ _))
        clear hb1
        go_wp2_with fail
        refine (CE.out _ B1.out).mono ?_
        rintro e w2 ⟨rfl, hb2⟩
        obtain ⟨z0, z1, z2, z3⟩ := blkp ((hb2.block (w.heap.size + 1) (Array.getElem?_eq_some_iff.1 G1.out).1).trans G1.out)
        have B2 := hide (B1.out.trans (hb2.mono B1.out.size))
        clear hb2 k0 k1
        go_wp2
        refine bodyPost_ret (v := .tuple #[.agg #[.slice none 0 0, .int .i64 0], .bool false]) (by simp [results, Tryd.f20, go_sem, z0, z1]) rfl (retK_none ((B2.out.setCell (p := ⟨_, _, none⟩) (Nat.le_succ _) _).setCell (p := ⟨_, _, none⟩) (Nat.le_succ _) _))
      · have hok : CutOk L B o := ⟨hg, by omega, by omega⟩
        obtain ⟨hL', hB', rfl⟩ := hr.yes hok
        have hone : 1 ≤ n := by have := hg.one; omega
        have hn20 : n ≤ 20 := by have := hg.many; omega
        have hX : ∀ i, i < n → (gc L i).x.length ≤ 60 := fun i hi => hg.small hn i hi
        have CO := hide (fun wx (hb : Below w.heap.size w wx) => l6Own_any a L n cap B wx hn hn20 (hs.below hb) hX)
        have CD : Hid (∀ k, k < n → ∀ a c wx, SlC wx a (L.drop k) → Calls Tryd.prog 40 #[.agg #[.slice a (n - k) c, .int .i64 o]] wx fun e w' => ∃ a' c', e = .returned (.agg #[.slice a' (n - k) c', .int .i64 o]) ∧ ∃ M, pcs M = L.drop k ∧ OwC w' wx.heap.size (.slice a' (n - k) c') (n - k) M ∧ Below wx.heap.size wx w') := hide (fun k hk a c wx h => l6Own_any a (L.drop k) (n - k) c o wx (by simp [hn]) (by omega) h (fun i hi => by
          have : gc (L.drop k) i = gc L (k + i) := by simp [gc, List.getD]
          rw [this]
          exact hX (k + i) (by omega)))
        rw [hB']
        have HL' := hide hL'
        have HN := hide hn
        clear hr hs hn hst hbk hg hlast hE hok hL' hB' hX
        go_enter Tryd.func20, Tryd.ntmps20
        go_wp2_with fail
        refine (C1.out _ BX.out).mono ?_
        rintro e w1 ⟨rfl, hb1⟩
        have B1 := hide (BX.out.trans (hb1.mono BX.out.size))
        have G1 : Hid (w1.heap[w.heap.size + 1]? = some (.cells #[.slice none 0 0, .int .i64 0] 25 (0, 0))) := (hb1.block (w.heap.size + 1) (by simp)).trans (blk_secondC w _ _)
        obtain ⟨k0, k1, _, _⟩ := blkp ((hb1.block w.heap.size (by simp only [World.size_alloc]; omega)).trans (blk_firstC w _ _))
        clear hb1
        go_wp2_with fail
        refine (CE.out _ B1.out).mono ?_
        rintro e w2 ⟨rfl, hb2⟩
        have G2 := hide ((hb2.block (w.heap.size + 1) (Array.getElem?_eq_some_iff.1 G1.out).1).trans G1.out)
        have l0 := (hb2.cell (p := ⟨w.heap.size, 0, none⟩) (blk_lt k0)).trans k0
        have l1 := (hb2.cell (p := ⟨w.heap.size, 1, none⟩) (blk_lt k0)).trans k1
        have B2 := hide (B1.out.trans (hb2.mono B1.out.size))
        clear hb2 k0 k1 G1
        go_wp2_with fail
        refine (CO.out _ B2.out).mono ?_
        rintro e w3 ⟨a3, c3, rfl, M, hM, ho, hb3⟩
        obtain ⟨g, rfl, hnc⟩ := own_capC ho.row hone
        have hz2 : w.heap.size + 1 < w2.heap.size := (Array.getElem?_eq_some_iff.1 G2.out).1
        have G3 := hide ((hb3.block (w.heap.size + 1) hz2).trans G2.out)
        have B3 := hide (B2.out.trans (hb3.mono B2.out.size))
        have hsl := ho.sl
        rw [hM] at hsl
        have HSL := hide hsl
        have hz3 := hb3.size
        clear hb3 l0 l1 ho hM hsl G2
        go_wp2
        go_loopw [] (fun wr => ∃ k : Nat, k < n ∧ Hid (wr.heap[w3.heap.size]? = some (.cells #[.slice (some ⟨g, k * 3, none⟩) (n - k) (c3 - k), .int .i64 o] 25 (0, 0))) ∧ Hid (dropW (L.drop k) o = dropW L o) ∧ Below w3.heap.size w3 wr) (fun wr => match wr.cell? ⟨w3.heap.size, 0, none⟩ with | some (.slice _ m _) => m | _ => 0)
        case atStart =>
          refine ⟨0, by omega, ?_, rfl, (Below.refl _ _).alloc (Nat.le_refl _) _⟩
          show _ = _
          rw [blk_new]
          simp
        case round =>
          obtain ⟨k, hk, HB, HD, hbel⟩ := hrel
          obtain ⟨y0, y1, y2, y3⟩ := blkp HB.out
          obtain ⟨m, hm⟩ : ∃ m, m = n - k := ⟨_, rfl⟩
          obtain ⟨c, hc⟩ : ∃ c, c = c3 - k := ⟨_, rfl⟩
          have CDk := hide (CD.out k hk)
          rw [← hm] at y0 CDk
          rw [← hc] at y0
          have HBm : Hid (wr.heap[w3.heap.size]? = some (.cells #[.slice (some ⟨g, k * 3, none⟩) m c, .int .i64 o] 25 (0, 0))) := by rw [hm, hc]; exact HB
          have BB := hide hbel
          have hw3 : w3.heap.size < wr.heap.size := (Array.getElem?_eq_some_iff.1 HB.out).1
          clear hbel HB
          by_cases h1 : 1 < m
          · obtain ⟨bb, of, hae, ai, ci, hat⟩ := HSL.out.below BB.out (k + 1) (by rw [HN.out]; omega)
            cases hae
            have d1 := hat.f
            rw [show L.getD (k + 1) eC = gc L (k + 1) from rfl, show 0 + (k + 1) * 3 = k * 3 + 3 by omega] at d1
            clear hat
            obtain ⟨f1, hf1⟩ : ∃ f1, f1 = (gc L (k + 1)).f := ⟨_, rfl⟩
            rw [← hf1] at d1
            have h1I : (1 : Int) < (m : Int) := by omega
            by_cases hle : f1 ≤ o
            · have q := slice_oneC g (k * 3) m c h1 (by omega)
              have R : ∃ k' : Nat, k' < n ∧ Hid ((wr.setCell ⟨w3.heap.size, 0, none⟩ (.slice (some ⟨g, k * 3 + 3, none⟩) (m - 1) (c - 1))).heap[w3.heap.size]? = some (.cells #[.slice (some ⟨g, k' * 3, none⟩) (n - k') (c3 - k'), .int .i64 o] 25 (0, 0))) ∧ Hid (dropW (L.drop k') o = dropW L o) ∧ Below w3.heap.size w3 (wr.setCell ⟨w3.heap.size, 0, none⟩ (.slice (some ⟨g, k * 3 + 3, none⟩) (m - 1) (c - 1))) := by
                refine ⟨k + 1, by omega, ?_, (dropW_step (by rw [HN.out]; omega) (by rw [← hf1]; exact hle)).trans HD.out, BB.out.setCell (p := ⟨w3.heap.size, 0, none⟩) (Nat.le_refl _) _⟩
                show (World.setCell _ _ _).heap[_]? = _
                rw [setCell_eq_setRow _ w3.heap.size 0 _ 25 (0, 0) _ HBm.out, setRow_heap _ w3.heap.size _ _ 25 _ HBm.out]
                rw [show (k + 1) * 3 = k * 3 + 3 by omega, show n - (k + 1) = m - 1 by omega, show c3 - (k + 1) = c - 1 by omega]
                rfl
              have HR := hide R
              have HME : Hid ((wr.setCell ⟨w3.heap.size, 0, none⟩ (.slice (some ⟨g, k * 3 + 3, none⟩) (m - 1) (c - 1))).cell? ⟨w3.heap.size, 0, none⟩ = some (.slice (some ⟨g, k * 3 + 3, none⟩) (m - 1) (c - 1))) := by
                have hB2 : (wr.setCell ⟨w3.heap.size, 0, none⟩ (.slice (some ⟨g, k * 3 + 3, none⟩) (m - 1) (c - 1))).heap[w3.heap.size]? = some (.cells #[.slice (some ⟨g, k * 3 + 3, none⟩) (m - 1) (c - 1), .int .i64 o] 25 (0, 0)) := by
                  rw [setCell_eq_setRow _ w3.heap.size 0 _ 25 (0, 0) _ HBm.out, setRow_heap _ w3.heap.size _ _ 25 _ HBm.out]
                  rfl
                exact (blkp hB2).1
              clear R hf1 hm hc
              go_wp2
              go_roundw
              case rel => exact HR.out
              case measure => rw [HME.out, y0]; simp; omega
            · have hst : Hid (L.drop k = L') := by
                show _ = _
                rw [HL'.out, ← HD.out, dropW_stop (by rw [HN.out]; exact hk) (fun _ => by rw [← hf1]; exact hle)]
              have hlen : L'.length = m := by rw [← hst.out]; simp [HN.out]; omega
              have HLEN := hide hlen
              have HSK : Hid (SlC wr (some ⟨g, k * 3, none⟩) (L.drop k)) := by
                have := slC_drop (HSL.out.below BB.out) k
                rw [Nat.zero_add] at this
                exact this
              have B4 := hide (B3.out.trans (BB.out.mono B3.out.size))
              have G4 := hide ((BB.out.block (w.heap.size + 1) (by omega)).trans G3.out)
              clear hlen hm hc
              try clear hf1
              go_wp2_with fail
              refine (CDk.out _ _ _ HSK.out).mono ?_
              rintro e w5 ⟨a5, c5, rfl, M5, hM5, ho5, hb5⟩
              obtain ⟨z0, z1, z2, z3⟩ := blkp ((hb5.block (w.heap.size + 1) (by omega)).trans G4.out)
              have B5 := hide (B4.out.trans (hb5.mono B4.out.size))
              have HO5 := hide ho5
              have HM5 := hide (hM5.trans hst.out)
              clear hb5 ho5 hM5 y0 y1 y2 y3
              go_wp2
              refine bodyPost_ret (v := .tuple #[.agg #[.slice a5 m c5, .int .i64 o], .bool true]) (by simp [results, Tryd.f20, go_sem, z0, z1]) rfl ⟨a5, c5, by rw [HLEN.out], M5, HM5.out, ?_, ?_⟩
              · rw [HLEN.out]
                have z : w.heap.size + 1 < wr.heap.size := by omega
                exact ((HO5.out.setC ⟨w.heap.size + 1, 0, none⟩ _ z).setC ⟨w.heap.size + 1, 1, none⟩ _ z).base (by omega)
              · exact (B5.out.setCell (p := ⟨w.heap.size + 1, 0, none⟩) (Nat.le_succ _) _).setCell (p := ⟨w.heap.size + 1, 1, none⟩) (Nat.le_succ _) _
          · have h1I : ¬ (1 : Int) < (m : Int) := by omega
            have hst : Hid (L.drop k = L') := by
              show _ = _
              rw [HL'.out, ← HD.out, dropW_stop (by rw [HN.out]; exact hk) (fun h => by rw [HN.out] at h; omega)]
            have hlen : L'.length = m := by rw [← hst.out]; simp [HN.out]; omega
            have HLEN := hide hlen
            have HSK : Hid (SlC wr (some ⟨g, k * 3, none⟩) (L.drop k)) := by
              have := slC_drop (HSL.out.below BB.out) k
              rw [Nat.zero_add] at this
              exact this
            have B4 := hide (B3.out.trans (BB.out.mono B3.out.size))
            have G4 := hide ((BB.out.block (w.heap.size + 1) (by omega)).trans G3.out)
            clear hlen hm hc
            try clear hf1
            go_wp2_with fail
            refine (CDk.out _ _ _ HSK.out).mono ?_
            rintro e w5 ⟨a5, c5, rfl, M5, hM5, ho5, hb5⟩
            obtain ⟨z0, z1, z2, z3⟩ := blkp ((hb5.block (w.heap.size + 1) (by omega)).trans G4.out)
            have B5 := hide (B4.out.trans (hb5.mono B4.out.size))
            have HO5 := hide ho5
            have HM5 := hide (hM5.trans hst.out)
            clear hb5 ho5 hM5 y0 y1 y2 y3
            go_wp2
            refine bodyPost_ret (v := .tuple #[.agg #[.slice a5 m c5, .int .i64 o], .bool true]) (by simp [results, Tryd.f20, go_sem, z0, z1]) rfl ⟨a5, c5, by rw [HLEN.out], M5, HM5.out, ?_, ?_⟩
            · rw [HLEN.out]
              have z : w.heap.size + 1 < wr.heap.size := by omega
              exact ((HO5.out.setC ⟨w.heap.size + 1, 0, none⟩ _ z).setC ⟨w.heap.size + 1, 1, none⟩ _ z).base (by omega)
            · exact (B5.out.setCell (p := ⟨w.heap.size + 1, 0, none⟩) (Nat.le_succ _) _).setCell (p := ⟨w.heap.size + 1, 1, none⟩) (Nat.le_succ _) _
end Go.Proofs.YtbcljhafdpnjbabDoor.L6

namespace Go.Proofs.YtbcljhafdpnjbabDoor.L6
open Go.RowKit L1
set_option linter.unusedVariables false

/-- Where a good log is dropped ahead of an offset, what stays begins at the piece of that offset. -/
theorem drop_spot {L : List Pc} {B o : Int} (hg : GoodG L B) : dropW L o = L.drop (pcAt L o (L.length - 1)) := by
  have hone := hg.one
  have hle := pcAt_le L o (L.length - 1)
  have hat := pcAt_at L o (L.length - 1)
  have hnx := pcAt_next L o (L.length - 1)
  obtain ⟨K, hK⟩ : ∃ K, K = pcAt L o (L.length - 1) := ⟨_, rfl⟩
  rw [← hK] at hle hat hnx ⊢
  have key : ∀ j, j ≤ K → dropW (L.drop j) o = dropW L o := fun j => by
    induction j with
    | zero => intro _; rw [List.drop_zero]
    | succ j ih =>
      intro hj
      rw [← ih (by omega)]
      refine dropW_step (by omega) ?_
      have h1 := (hg.ps (j + 1) (by omega)).2.1
      have h2 := (hg.ps K (by omega)).2.1
      have h3 := atg_mono2 L hj
      rcases hat with e | e <;> omega
  rw [← key K (Nat.le_refl _)]
  exact dropW_stop (by omega) (fun h hf => by
    have := hnx (K + 1) (by omega) (by omega)
    omega)
theorem flatC_drop : ∀ (M : List PV) (k : Nat), (flatC M).drop (k * 3) = flatC (M.drop k)
  | [], k => by simp [flatC]
  | p :: M, 0 => by simp [flatC]
  | p :: M, k + 1 => by
    have ih := flatC_drop M k
    rw [show (k + 1) * 3 = k * 3 + 1 + 1 + 1 by omega]
    simp only [flatC, List.drop_succ_cons, ih]
theorem own_oneC {w : World} {base n : Nat} {v : Value} {M : List PV} (h : OwC w base v n M) : ∀ u ∈ flatC M, u.oneCell' = true := by
  refine flatC_one M (fun q hq => ?_)
  obtain ⟨i, hi, e⟩ := List.getElem_of_mem hq
  have h1 := h.idx i (by rw [← h.len]; exact hi)
  have e2 : M.getD i eV = q := by simp [List.getD, List.getElem?_eq_getElem hi, e]
  rw [e2] at h1
  rcases h1.2 with ⟨hv, _⟩ | ⟨g, cap, cur, hv, _⟩
  · rw [hv]; rfl
  · rw [hv]; rfl
/-- Pieces are copied to the front of their own row. -/
theorem copy_front {w : World} {base g n K : Nat} {M : List PV} (h : OwC w base (.slice (some ⟨g, 0, none⟩) n n) n M) (hK : K < n) :
    ∃ w', (Builtin.copy_ #[23, 23] 3 #[.slice (some ⟨g, 0, none⟩) n n, .slice (some ⟨g, K * 3, none⟩) (n - K) (n - K)]).run Tryd.prog w = .ok (.int .i64 ((n - K : Nat) : Int)) w' ∧ (∃ ys, w'.ownsRow base 50 3 (.slice (some ⟨g, 0, none⟩) n n) n ys ∧ ys.take ((n - K) * 3) = flatC (M.drop K)) ∧ w.grownBy w' (some g) := by
  have hone := own_oneC h
  have hlen := h.len
  have hcell : ∀ j v, (flatC (M.drop K))[j]? = some v → w.cell? ((⟨g, K * 3, none⟩ : Addr).add j) = some v := fun j v hv => by
    rw [← flatC_drop, List.getElem?_drop] at hv
    have := h.row.cells (g := g) rfl (K * 3 + j) v hv
    rw [addr_add] at this
    rw [add_at6]
    simpa using this
  have hcl : (flatC (M.drop K)).length = (n - K) * 3 := by rw [flatC_len, List.length_drop, hlen]
  obtain ⟨hl, h2⟩ := h.row
  rcases h2 with ⟨hv, _⟩ | ⟨g', cap', cur, hv, hbg, hg, hc1, hc2, hc3, hc4⟩
  · cases hv
  · simp at hv
    obtain ⟨rfl, rfl⟩ := hv
    have hcs : (flatC (M.drop K)).length ≤ cur.size := by rw [hc3, hcl]; omega
    have hrun := run_copy_k Tryd.prog w 23 23 3 50 g 0 n n 3 ⟨g, K * 3, none⟩ (n - K) (n - K) (n - K) cur 50 (flatC (M.drop K)) Tryd.underlying23 size_pc hg (by simp [Nat.min_eq_left]) hcl hcell (by omega) (fun v hv => hone v (by rw [← flatC_drop] at hv; exact List.mem_of_mem_drop hv))
    obtain ⟨ys, hys⟩ : ∃ ys, ys = flatC (M.drop K) ++ cur.toList.drop (flatC (M.drop K)).length := ⟨_, rfl⟩
    have hyl : ys.length = n * 3 := by rw [hys]; simp [hcl]; omega
    have e : (cur.toList.take 0 ++ flatC (M.drop K) ++ cur.toList.drop (0 + (flatC (M.drop K)).length)).toArray = ys.toArray := by rw [hys]; simp
    rw [e] at hrun
    refine ⟨w.setRow g ys.toArray, hrun, ⟨ys, ⟨hyl, .inr ⟨g, n, ys.toArray, rfl, hbg, setRow_heap w g cur _ 50 _ hg, Nat.le_refl _, hc2, by simpa using hyl, ?_⟩⟩, by rw [hys, List.take_append_of_le_length (by omega), List.take_of_length_le (by omega)]⟩, ⟨rfl, rfl, rfl, by simp [World.setRow], fun k hk hne => ?_⟩⟩
    · simp
      exact List.take_of_length_le (by omega)
    · exact setRow_other w g k _ (fun e => hne (by rw [e]))
set_option maxRecDepth 100000 in
set_option maxHeartbeats 1000000 in
theorem shorten_row (base g n p : Nat) (xs : List Value) (w : World) (hp : p ≤ n) (hn : n ≤ 1048576) (ho : w.ownsRow base 50 3 (.slice (some ⟨g, 0, none⟩) n n) n xs) :
    Calls Tryd.prog 50 #[.slice (some ⟨g, 0, none⟩) n n, .int .i64 (p : Int)] w fun e w' => e = .returned (.slice (some ⟨g, 0, none⟩) p n) ∧ w'.ownsRow base 50 3 (.slice (some ⟨g, 0, none⟩) p n) p (xs.take (p * 3)) ∧ w.grownBy w' (some g) := by
  have hto := slice_toC g n p hp
  by_cases hpn : p < n
  · have hfr := slice_fromC g n p hpn
    obtain ⟨w', hclr, hown, hgr⟩ := clear_short hpn ho 0
    have R := hide (And.intro hown hgr)
    have hle : (p : Int) ≤ (n : Int) := by omega
    clear ho hown hgr
    go_enter Tryd.func50, Tryd.ntmps50
    go_wp2
    go_ret
    exact ⟨rfl, R.out⟩
  · obtain rfl : p = n := by omega
    obtain ⟨a', c', hfr⟩ := slice_endC g p
    have hclr := clear_none a' c' 0
    have R := hide (show w.ownsRow base 50 3 (.slice (some ⟨g, 0, none⟩) p p) p (xs.take (p * 3)) ∧ w.grownBy w (some g) from ⟨by rw [List.take_of_length_le (by rw [ho.1]; exact Nat.le_refl _)]; exact ho, World.grownBy.refl _ _⟩)
    clear ho hpn
    go_enter Tryd.func50, Tryd.ntmps50
    go_wp2
    go_ret
    exact ⟨rfl, R.out⟩
/-- What stays of a log that is a call's own, its first pieces gone. -/
theorem OwC.behind {w w' : World} {base g n cap K : Nat} {M : List PV} (h : OwC w base (.slice (some ⟨g, 0, none⟩) n cap) n M) (hK : K ≤ n) (hr : w'.ownsRow base 50 3 (.slice (some ⟨g, 0, none⟩) (n - K) cap) (n - K) (flatC (M.drop K))) (hg : w.grownBy w' (some g)) : OwC w' base (.slice (some ⟨g, 0, none⟩) (n - K) cap) (n - K) (M.drop K) := by
  have e : ∀ i, (M.drop K).getD i eV = M.getD (K + i) eV := fun i => by simp [List.getD]
  refine ⟨by rw [List.length_drop, h.len], hr, fun i hi => ?_, fun i j hij hj => ?_⟩
  · rw [e i]
    exact own_keptC (h.idx (K + i) (by omega)) hg (fun b hb q => by
      simp at q
      subst q
      exact own_two h.row (h.idx (K + i) (by omega)) int_piece g rfl hb)
  · rw [e i, e j]
    exact h.apart (K + i) (K + j) (by omega) (by omega)

open Classical in
set_option maxRecDepth 100000 in
set_option maxHeartbeats 4000000 in
theorem implDrop_any (a : Option Addr) (L : List Pc) (n cap : Nat) (B o : Int) (w : World) (hn : L.length = n) (hm : n ≤ 9223372036854775807) (hs : SlC w a L) (hst : TxC L) (ht : Tab w) (hsm : ∀ i, i < n → (gc L i).f ≤ 100000) (L' : List Pc) (B' : Int) (ok : Bool) (hr : DropIs L B o L' B' ok) :
    Calls Tryd.prog 19 #[.agg #[.slice a n cap, .int .i64 B], .int .i64 o] w (RetK w L' B' ok) := by
  obtain ⟨bk, hbk⟩ : ∃ bk : Bool, bk = true ↔ GoodG L B := ⟨decide (GoodG L B), by simp⟩
  have C1 := hide (fun wx (hb : Below w.heap.size w wx) => goodLog_any a L n cap B wx hn hm (hs.below hb) hst (ht.below hb) bk hbk)
  have BX := hide (((Below.refl w.heap.size w).alloc (Nat.le_refl _) (.cells #[.slice a n cap, .int .i64 B] 25 (0, 0))).alloc (by simp) (.cells #[.slice none 0 0, .int .i64 0] 25 (0, 0)))
  cases bk with
  | false =>
    obtain ⟨rfl, rfl, rfl⟩ := hr.no (fun h => absurd (hbk.2 h.1) (by simp))
    clear hr hs hn hst hbk ht hsm
    go_enter Tryd.func19, Tryd.ntmps19
    go_wp2_with fail
    refine (C1.out _ BX.out).mono ?_
    rintro e w1 ⟨rfl, hb1⟩
    obtain ⟨z0, z1, z2, z3⟩ := blkp ((hb1.block (w.heap.size + 1) (by simp)).trans (blk_secondC w _ _))
    have B1 := hide (BX.out.trans (hb1.mono BX.out.size))
    clear hb1
    go_wp2
    refine bodyPost_ret (v := .tuple #[.agg #[.slice none 0 0, .int .i64 0], .bool false]) (by simp [results, Tryd.f19, go_sem, z0, z1]) rfl (retK_none ((B1.out.setCell (p := ⟨_, _, none⟩) (Nat.le_succ _) _).setCell (p := ⟨_, _, none⟩) (Nat.le_succ _) _))
  | true =>
    have hg := hbk.1 rfl
    have hn1 : 1 ≤ n := by have := hg.one; omega
    have hn20 : n ≤ 20 := by have := hg.many; omega
    have hla := hg.logAt hn hs ht
    have hlast := hg.last hn
    obtain ⟨bi, hbi⟩ : ∃ bi : Bool, bi = true ↔ B ≤ o ∧ o ≤ lastEnd L n := ⟨decide (B ≤ o ∧ o ≤ lastEnd L n), by simp⟩
    have CI := hide (fun wx (hb : Below w.heap.size w wx) => isWithin_any a L n cap B o wx (hla.below hb) bi hbi)
    cases bi with
    | false =>
      obtain ⟨rfl, rfl, rfl⟩ := hr.no (fun h => absurd (hbi.2 ⟨h.2.1, by rw [hlast]; exact h.2.2⟩) (by simp))
      clear hr hs hn hst hbk ht hsm hg hla hlast hbi
      go_enter Tryd.func19, Tryd.ntmps19
      go_wp2_with fail
      refine (C1.out _ BX.out).mono ?_
      rintro e w1 ⟨rfl, hb1⟩
      have B1 := hide (BX.out.trans (hb1.mono BX.out.size))
      have G1 : Hid (w1.heap[w.heap.size + 1]? = some (.cells #[.slice none 0 0, .int .i64 0] 25 (0, 0))) := (hb1.block (w.heap.size + 1) (by simp)).trans (blk_secondC w _ _)
      obtain ⟨k0, k1, _, _⟩ := blkp ((hb1.block w.heap.size (by simp only [World.size_alloc]; omega)).trans (blk_firstC w _ _))
      clear hb1
      go_wp2_with fail
      refine (CI.out _ B1.out).mono ?_
      rintro e w2 ⟨rfl, hb2⟩
      obtain ⟨z0, z1, z2, z3⟩ := blkp ((hb2.block (w.heap.size + 1) (Array.getElem?_eq_some_iff.1 G1.out).1).trans G1.out)
      have B2 := hide (B1.out.trans (hb2.mono B1.out.size))
      clear hb2 k0 k1
      go_wp2
      refine bodyPost_ret (v := .tuple #[.agg #[.slice none 0 0, .int .i64 0], .bool false]) (by simp [results, Tryd.f19, go_sem, z0, z1]) rfl (retK_none ((B2.out.setCell (p := ⟨_, _, none⟩) (Nat.le_succ _) _).setCell (p := ⟨_, _, none⟩) (Nat.le_succ _) _))
    | true =>
      obtain ⟨hBo, hoE⟩ := hbi.1 rfl
      rw [hlast] at hoE
      obtain ⟨hL', hB', rfl⟩ := hr.yes ⟨hg, hBo, hoE⟩
      rw [drop_spot hg] at hL'
      obtain ⟨K, hK⟩ : ∃ K, K = pcAt L o (n - 1) := ⟨_, rfl⟩
      rw [hn, ← hK] at hL'
      have hKn : K < n := by have := pcAt_le L o (n - 1); omega
      have C2 := hide (fun wx (hb : Below w.heap.size w wx) => copyLog_any a L n cap B wx hn hn1 hn20 (hs.below hb) (hg.small hn))
      have CQ := hide (fun wx (hb : Below w.heap.size w wx) => pieceAt_any a L n cap B o wx hn hn1 hn20 (hs.below hb) K hK.symm)
      have hfK := hsm K hKn
      obtain ⟨b, off, rfl, ai, ci, hat⟩ := hs K (by omega)
      have hd0 := hat.f
      obtain ⟨f, hf⟩ : ∃ f, f = (gc L K).f := ⟨_, rfl⟩
      rw [show (L.getD K eC).f = f from hf.symm] at hd0
      rw [← hf] at hfK
      have hfI : ¬ 100000 < f := by omega
      have HF := hide (fun wx (hb : Below w.heap.size w wx) => (hb.cell (p := ⟨b, off + K * 3, none⟩) (blk_lt hd0)).trans hd0)
      have hKI : (K : Int) < (n : Int) := by omega
      have hK0 : (0 : Int) ≤ (K : Int) := by omega
      have HN := hide hn
      have HL' := hide hL'
      have HB' := hide hB'
      clear hs hn hg hst hbk ht hr hla hlast hbi hK hL' hB' hBo hoE hsm hat hd0 hf
      go_enter Tryd.func19, Tryd.ntmps19
      go_wp2_with fail
      refine (C1.out _ BX.out).mono ?_
      rintro e wa ⟨rfl, hb1⟩
      have BA := hide (BX.out.trans (hb1.mono BX.out.size))
      have GA : Hid (wa.heap[w.heap.size + 1]? = some (.cells #[.slice none 0 0, .int .i64 0] 25 (0, 0))) := (hb1.block (w.heap.size + 1) (by simp)).trans (blk_secondC w _ _)
      obtain ⟨k0, k1, _, _⟩ := blkp ((hb1.block w.heap.size (by simp only [World.size_alloc]; omega)).trans (blk_firstC w _ _))
      clear hb1
      go_wp2_with fail
      refine (CI.out _ BA.out).mono ?_
      rintro e wb ⟨rfl, hb2⟩
      have BB := hide (BA.out.trans (hb2.mono BA.out.size))
      have GB : Hid (wb.heap[w.heap.size + 1]? = some (.cells #[.slice none 0 0, .int .i64 0] 25 (0, 0))) := (hb2.block (w.heap.size + 1) (Array.getElem?_eq_some_iff.1 GA.out).1).trans GA.out
      have j0 := (hb2.cell (p := ⟨w.heap.size, 0, none⟩) (blk_lt k0)).trans k0
      have j1 := (hb2.cell (p := ⟨w.heap.size, 1, none⟩) (blk_lt k0)).trans k1
      clear hb2 k0 k1 BA GA
      go_wp2_with fail
      refine (CQ.out _ BB.out).mono ?_
      rintro e w0 ⟨rfl, hb2⟩
      have B0 := hide (BB.out.trans (hb2.mono BB.out.size))
      have G0 : Hid (w0.heap[w.heap.size + 1]? = some (.cells #[.slice none 0 0, .int .i64 0] 25 (0, 0))) := (hb2.block (w.heap.size + 1) (Array.getElem?_eq_some_iff.1 GB.out).1).trans GB.out
      have k0 := (hb2.cell (p := ⟨w.heap.size, 0, none⟩) (blk_lt j0)).trans j0
      have k1 := (hb2.cell (p := ⟨w.heap.size, 1, none⟩) (blk_lt j0)).trans j1
      have kf := HF.out w0 B0.out
      clear hb2 j0 j1 BB GB
      go_wp2_with fail
      refine (C2.out _ B0.out).mono ?_
      rintro e w1 ⟨g, M, rfl, hM, ho, hb3⟩
      have B1 := hide (B0.out.trans (hb3.mono B0.out.size))
      have hsz0 : w.heap.size + 1 < w0.heap.size := (Array.getElem?_eq_some_iff.1 G0.out).1
      have G1 := (hb3.block (w.heap.size + 1) hsz0).trans G0.out
      have hgb := own_ltC ho.row g rfl
      have hz01 := hb3.size
      obtain ⟨W, hW⟩ : ∃ W, W = w1.alloc (.cells #[.slice (some ⟨g, 0, none⟩) n n, .int .i64 o] 25 (0, 0)) := ⟨_, rfl⟩
      have hbW : Below w1.heap.size w1 W := by rw [hW]; exact (Below.refl _ _).alloc (Nat.le_refl _) _
      have hOut : W.heap[w1.heap.size]? = some (.cells #[.slice (some ⟨g, 0, none⟩) n n, .int .i64 o] 25 (0, 0)) := by
        rw [hW]
        exact blk_new _ _
      have HO := hide (ho.below hbW)
      have HM := hide hM
      have G2 := hide ((hbW.block (w.heap.size + 1) (Array.getElem?_eq_some_iff.1 G1).1).trans G1)
      have B2 := hide (B1.out.trans (hbW.mono B1.out.size))
      have HOut := hide hOut
      have hWs : w1.heap.size < W.heap.size := (Array.getElem?_eq_some_iff.1 hOut).1
      obtain ⟨o0, o1, _, _⟩ := blkp hOut
      have hfr := slice_fromC g n K hKn
      have hKn' : (K : Int) ≤ (n : Int) := by omega
      have HW := hide hW.symm
      clear hb3 ho hM G1 B0 G0 kf k0 k1 hbW hOut B1 hW
      go_upto_region 8 with fail
      rw [HW.out]
      clear HW
      refine wp_region_held_drew (S := fun wx => wx.cell? ⟨w1.heap.size, 0, none⟩ = some (.slice (some ⟨g, 0, none⟩) n n) ∧ wx.cell? ⟨w1.heap.size, 1, none⟩ = some (.int .i64 o)) (by kernel_rfl) ⟨o0, o1⟩ (fun hHeld => ?_)
      refine wpAnyH_take (i := 0) (v := ?v1) rfl (by kernel_rfl) (by kernel_rfl) (by kernel_rfl) (fun _ _ _ h => h) (Or.inl ⟨by rfl, ?y1⟩) (by assumption) ?r1
      case y1 => (intro w hSw; (try dsimp only at hSw); go_simp; try (with_reducible rfl))
      simp only [List.getElem_toArray, List.getElem_cons_zero, Act.put, List.setIfInBounds_toArray, List.set_cons_zero, List.set_cons_succ]
      refine wpAnyH_take (i := 1) (v := ?v2) rfl (by kernel_rfl) (by kernel_rfl) (by kernel_rfl) (fun _ _ _ h => h) (Or.inl ⟨by rfl, ?y2⟩) (by assumption) ?r2
      case y2 => (intro w hSw; (try dsimp only at hSw); go_simp; try (with_reducible rfl))
      simp only [List.getElem_toArray, List.getElem_cons_succ, List.getElem_cons_zero, Act.put, List.setIfInBounds_toArray, List.set_cons_zero, List.set_cons_succ]
      refine wpAnyH_take (i := 2) (v := ?v3) rfl (by kernel_rfl) (by kernel_rfl) (by kernel_rfl) (fun _ _ _ h => h) (Or.inl ⟨by rfl, ?y3⟩) (by assumption) ?r3
      case y3 => (intro w hSw; (try dsimp only at hSw); go_simp; try (with_reducible rfl))
      simp only [List.getElem_toArray, List.getElem_cons_succ, List.getElem_cons_zero, Act.put, List.setIfInBounds_toArray, List.set_cons_zero, List.set_cons_succ]
      refine wpAnyH_take (i := 3) (v := ?v4) rfl (by kernel_rfl) (by kernel_rfl) (by kernel_rfl) (fun _ _ _ h => h) (Or.inl ⟨by rfl, ?y4⟩) (by assumption) ?r4
      case y4 => (intro w hSw; (try dsimp only at hSw); go_simp; try (with_reducible rfl))
      simp only [List.getElem_toArray, List.getElem_cons_succ, List.getElem_cons_zero, Act.put, List.setIfInBounds_toArray, List.set_cons_zero, List.set_cons_succ]
      refine wpAnyH_take (i := 4) (v := ?v5) rfl (by kernel_rfl) (by kernel_rfl) (by kernel_rfl) (fun _ _ _ h => h) (Or.inl ⟨by rfl, ?y5⟩) (by assumption) ?r5
      case y5 => (intro w hSw; (try dsimp only at hSw); go_simp; try (with_reducible rfl))
      simp only [List.getElem_toArray, List.getElem_cons_succ, List.getElem_cons_zero, Act.put, List.setIfInBounds_toArray, List.set_cons_zero, List.set_cons_succ]
      refine wpAnyH_take (i := 5) (v := ?v6) rfl (by kernel_rfl) (by kernel_rfl) (by kernel_rfl) (fun _ _ _ h => h) (Or.inl ⟨by rfl, ?y6⟩) (by assumption) ?r6
      case y6 => (intro w hSw; (try dsimp only at hSw); go_simp; try (with_reducible rfl))
      simp only [List.getElem_toArray, List.getElem_cons_succ, List.getElem_cons_zero, Act.put, List.setIfInBounds_toArray, List.set_cons_zero, List.set_cons_succ]
      obtain ⟨w3, hcp, ⟨ys, hrow, hys⟩, hg3⟩ := copy_front (w := W.drew) (K := K) (HO.out.below (Below.refl _ _).drew) hKn
      have q0 := grown_cell hg3 ⟨w1.heap.size, 0, none⟩ hHeld.1 (by simp; omega)
      have q1 := grown_cell hg3 ⟨w1.heap.size, 1, none⟩ hHeld.2 (by simp; omega)
      refine wpAnyH_ready (rs := [6]) (by kernel_rfl) (by simp) ?_
      refine AllReadyH.cons rfl (fun K' hK' => ?_) AllReadyH.nil
      simp only [List.getElem_toArray, List.getElem_cons_succ, List.getElem_cons_zero]
      go_simp
      refine hK'.out _ _ ?_ (fun hHeld => ?_)
      · exact ⟨q0, q1⟩
      clear hK' K' hcp
      try simp only [Act.put, List.setIfInBounds_toArray, List.set_cons_zero, List.set_cons_succ]
      refine wpAnyH_take (i := 7) (v := ?v7) rfl (by kernel_rfl) (by kernel_rfl) (by kernel_rfl) (fun _ _ _ h => h) (Or.inl ⟨by rfl, ?y7⟩) (by assumption) ?r7
      case y7 => (intro w hSw; (try dsimp only at hSw); go_simp; try (with_reducible rfl))
      simp only [List.getElem_toArray, List.getElem_cons_succ, List.getElem_cons_zero, Act.put, List.setIfInBounds_toArray, List.set_cons_zero, List.set_cons_succ]
      refine wpAnyH_done (by kernel_rfl) ?_ _
      have hWd := (Below.refl W.heap.size W).drew
      have G3 := hide ((hg3.block (w.heap.size + 1) (by have := (Array.getElem?_eq_some_iff.1 G2.out).1; exact this) (by simp; omega)).trans G2.out)
      have Q3 := hide ((hg3.block w1.heap.size hWs (by simp; omega)).trans HOut.out)
      have B3 := hide ((B2.out.drew).grown hg3 (by have := B2.out.size; exact this) (fun q hq => by cases hq; omega))
      have HR := hide hrow
      have HYS := hide hys
      have HO2 := hide (HO.out.below hWd)
      have HG3 := hide hg3
      have hnK : (n - K : Nat) ≤ n := by omega
      have CS := hide (shorten_row w0.heap.size g n (n - K) ys w3 hnK (by omega) hrow)
      clear hrow hys hg3 hHeld o0 o1 hWd HOut G2 B2 HO
      go_wp2_with fail
      refine CS.out.mono ?_
      rintro e w4 ⟨rfl, hr4, hg4⟩
      rw [HYS.out] at hr4
      have O4 := hide (HO2.out.behind (by omega) hr4 (HG3.out.trans hg4))
      have hz3 := hg4.size
      have G4 := (hg4.block (w.heap.size + 1) (Array.getElem?_eq_some_iff.1 G3.out).1 (by simp; omega)).trans G3.out
      have Q4 := (hg4.block w1.heap.size (Array.getElem?_eq_some_iff.1 Q3.out).1 (by simp; omega)).trans Q3.out
      have B4 := hide (B3.out.grown hg4 (by have := B3.out.size; exact this) (fun q hq => by cases hq; omega))
      obtain ⟨W5, hW5⟩ : ∃ W5, W5 = w4.setCell ⟨w1.heap.size, 0, none⟩ (.slice (some ⟨g, 0, none⟩) (n - K) n) := ⟨_, rfl⟩
      obtain ⟨u0, u1, u2, u3⟩ := blkp Q4
      have O5 := hide (show OwC W5 w0.heap.size (.slice (some ⟨g, 0, none⟩) (n - K) n) (n - K) (M.drop K) by rw [hW5]; exact O4.out.setBC (i := 0) Q4)
      have Q5 : W5.heap[w1.heap.size]? = some (.cells #[.slice (some ⟨g, 0, none⟩) (n - K) n, .int .i64 o] 25 (0, 0)) := by
        rw [hW5]
        exact (heap_setCell_same _ w1.heap.size 0 _ _ _ Q4).trans rfl
      have G5 : W5.heap[w.heap.size + 1]? = some (.cells #[.slice none 0 0, .int .i64 0] 25 (0, 0)) := by
        rw [hW5, Below.heap_setCell _ _ _ _ (by show w.heap.size + 1 ≠ w1.heap.size; omega)]
        exact G4
      have B5 := hide (show Below w.heap.size w W5 by rw [hW5]; exact B4.out.setCell (p := ⟨w1.heap.size, 0, none⟩) (by show w.heap.size ≤ w1.heap.size; omega) _)
      have HW5 := hide hW5.symm
      clear hr4 hg4 G4 Q4 hW5 HR HYS HO2 HG3 CS O4 B4 B3 G3 Q3
      go_upto_region 10 with fail
      rw [HW5.out]
      clear HW5 u0 u1 u2 u3
      obtain ⟨z0, z1, z2, z3⟩ := blkp G5
      obtain ⟨o0, o1, _, _⟩ := blkp Q5
      clear G5 Q5
      have hlen : L'.length = n - K := by rw [HL'.out, List.length_drop, HN.out]
      have HLEN := hide hlen
      have HPC : Hid (pcs (M.drop K) = L') := hide (by show List.map _ _ = _; rw [List.map_drop, HL'.out, ← HM.out])
      clear hlen
      go_wp2
      refine bodyPost_ret (v := .tuple #[.agg #[.slice (some ⟨g, 0, none⟩) (n - K) n, .int .i64 o], .bool true]) (by simp [results, Tryd.f19, go_sem, z0, z1]) rfl ⟨some ⟨g, 0, none⟩, n, by rw [HLEN.out, HB'.out], _, HPC.out, ?_, ?_⟩
      · rw [HLEN.out]
        have z : w.heap.size + 1 < w0.heap.size := hsz0
        exact ((O5.out.setC ⟨w.heap.size + 1, 0, none⟩ _ z).setC ⟨w.heap.size + 1, 1, none⟩ _ z).base (by omega)
      · exact (B5.out.setCell (p := ⟨w.heap.size + 1, 0, none⟩) (Nat.le_succ _) _).setCell (p := ⟨w.heap.size + 1, 1, none⟩) (Nat.le_succ _) _
end Go.Proofs.YtbcljhafdpnjbabDoor.L6

namespace Go.Proofs.YtbcljhafdpnjbabDoor.L6
open Go.RowKit L1
set_option linter.unusedVariables false

/-- The last piece written over by a good one. -/
theorem good_set2 {L : List Pc} {B : Int} {p : Pc} (h : GoodG L B) (hf : p.f = (gc L (L.length - 1)).f) (hp : GoodP p) (hc : p.f + (cnt p.s : Int) - (gc L 0).f ≤ 60) (hB : B ≤ p.f + (cnt p.s : Int)) : GoodG (L.set (L.length - 1) p) B ∧ endg (L.set (L.length - 1) p) = p.f + (cnt p.s : Int) := by
  have h1 := h.one
  have hm : L.length - 1 < L.length := by omega
  have hl : (L.set (L.length - 1) p).length = L.length := by simp
  have e0 : (gc (L.set (L.length - 1) p) 0).f = (gc L 0).f := atg_set hm hf 0 (by omega)
  have hat := atg_set (p := p) hm hf
  have hend : endg (L.set (L.length - 1) p) = p.f + (cnt p.s : Int) := by
    unfold endg
    rw [hl]
    have hfk := (h.ps _ hm).2.1
    obtain ⟨k, hk⟩ : ∃ k, L.length = k + 1 := ⟨L.length - 1, by omega⟩
    have e1 : L.length - 1 = k := by omega
    rw [e1] at hat hf hfk ⊢
    rw [hk]
    have e3 : atg (L.set k p) (k + 1) = atg (L.set k p) k + (cnt (gc (L.set k p) k).s : Int) := rfl
    rw [e3, hat k (Nat.le_refl _), gc_setR L k k p (by omega), if_pos rfl, hf, hfk]
  refine ⟨⟨by rw [hl]; exact h1, by rw [hl]; exact h.many, by rw [e0]; exact h.f0, by rw [e0]; exact h.f1, fun i hi => ?_, by rw [e0]; exact h.b0, ?_, ?_⟩, hend⟩
  · rw [hl] at hi
    refine ⟨?_, ?_, fun h3 => ?_⟩
    · rw [gc_setR _ _ _ _ hi]
      split
      · exact hp
      · exact (h.ps i hi).1
    · rw [hat i (by omega), gc_setR _ _ _ _ hi]
      split
      · rename_i e
        rw [hf, e]
        exact (h.ps _ hm).2.1
      · exact (h.ps i hi).2.1
    · rw [hl] at h3
      rw [gc_setR _ _ _ _ hi, if_neg (by omega)]
      exact (h.ps i hi).2.2 h3
  · rw [e0, gc_setR L _ 0 p (by omega)]
    split
    · rename_i e
      rw [show (gc L 0).f = p.f by rw [hf, ← e]]
      exact hB
    · exact h.b1
  · have : atg (L.set (L.length - 1) p) (L.set (L.length - 1) p).length = p.f + (cnt p.s : Int) := hend
    rw [this, e0]
    exact hc
theorem toList_app (s t : ByteArray) : (s ++ t).data.toList = s.data.toList ++ t.data.toList := by
  show (ByteArray.append s t).data.toList = _
  simp [ByteArray.append]
/-- The record that stands behind a text, as it is told. -/
theorem app_rtx (s r : ByteArray) (h : r.size ≤ 20) : rtx (s ++ rec r) s.size = r := by
  rw [rtx_some (app_rc s r h)]
  apply ByteArray.ext
  apply Array.ext'
  have hc : (strOfNums (vd (zig (r.size : Int)))).data.toList.length = 1 := by
    rw [vd_small _ h]
    rfl
  have e : ∀ (u : ByteArray) (a b : Nat), (u.extract a b).data.toList = (u.data.toList.take b).drop a := fun u a b => by simp [ByteArray.data_extract, List.drop_take]
  rw [e, toList_app]
  unfold rec
  rw [toList_app, ← List.append_assoc]
  obtain ⟨u, hu⟩ : ∃ u, u = s.data.toList ++ (strOfNums (vd (zig (r.size : Int)))).data.toList := ⟨_, rfl⟩
  have hul : u.length = s.size + 1 := by rw [hu, List.length_append, hc]; simp
  rw [← hu, ← hul, List.take_of_length_le (by simp), List.drop_left]
theorem app_rtx0 (r : ByteArray) (h : r.size ≤ 20) : rtx (rec r) 0 = r := by
  have h1 := app_rtx ByteArray.empty r h
  have e : ByteArray.empty ++ rec r = rec r := by
    apply ByteArray.ext
    simp
  rw [e] at h1
  exact h1
/-- What the law asks where a record is put behind. -/
structure AppLaw (L : List Pc) (B : Int) (r : ByteArray) (L' : List Pc) (B' : Int) : Prop where
  g : GoodG L B
  g' : GoodG L' B'
  b : B' = B
  all : allG L' B' = allG L B ++ [r]
  fin : endg L' = endg L + 1
theorem app_put {L : List Pc} {B : Int} {r : ByteArray} (hp : AppPre L B r) (hf : AppFits L r) : AppLaw L B r (L.set (L.length - 1) (appP (endP L) r)) B := by
  obtain ⟨hg, hr, h60⟩ := hp
  have hone := hg.one
  have hgp := (hg.ps (L.length - 1) (by omega)).1
  have hend := end_last hone hg.ps
  have hlast := hg.last rfl
  have hB := hg.end0
  have hfew : endg L - (gc L 0).f ≤ 60 := hg.few
  obtain ⟨p, hpp⟩ : ∃ p, p = gc L (L.length - 1) := ⟨_, rfl⟩
  have hpe : endP L = p := hpp.symm
  rw [← hpp] at hgp hend
  unfold AppFits at hf
  rw [hpe] at hf ⊢
  obtain ⟨c1, c2, c3⟩ := app_cnt p.s r hgp.2.1 hr
  have hz := app_size p.s r hr
  have hwp := (appP_whole hgp hr).2
  obtain ⟨q, hq⟩ : ∃ q, q = appP p r := ⟨_, rfl⟩
  have hqf : q.f = p.f := by rw [hq, appP]
  have hqs : q.s = p.s ++ rec r := by rw [hq, appP]
  have hqx : q.x = ix (p.s ++ rec r) := by rw [hq, appP]
  have hqc : cnt q.s = cnt p.s + 1 := by rw [hqs]; exact c1
  rw [← hq]
  have hgq : GoodP q := ⟨by rw [hqs, hz]; exact hf, by rw [hqs]; exact hwp, by rw [hqx, hqs]⟩
  rw [hlast] at h60
  obtain ⟨g1, g2⟩ := good_set2 (p := q) hg (by rw [hqf, hpp]) hgq (by rw [hqc, hqf]; omega) (by rw [hqc, hqf]; omega)
  refine ⟨hg, g1, rfl, ?_, by rw [g2, hqf, hqc, hend]; omega⟩
  obtain ⟨e1, e2⟩ := all_set (B := B) (p := q) hone
  rw [e1, e2, ← hpp, hqf, hqc, fl_yes (by omega), List.append_assoc]
  congr 1
  have hw : wh p.s = p.s.size := hgp.2.1
  have hpl : pl p.s 0 (cnt p.s) = p.s.size := hw
  have hx := rtx_ext (s := p.s) (t := p.s ++ rec r) (cnt p.s) (Nat.le_refl _) (by rw [hpl, hz]; omega) (by
    rw [bts_append, hpl]
    have hl : (bts p.s 0).length = p.s.size := by rw [bts_len]; omega
    rw [← hl, List.take_left, List.take_length])
  rw [hqs]
  rw [fl_congr (s := p.s ++ rec r) (t := p.s) (cnt p.s) hx, c2 _ (Nat.le_refl _), hpl, app_rtx _ _ hr]
theorem gc_more (L : List Pc) (q : Pc) (i : Nat) (hi : i ≤ L.length) : gc (L ++ [q]) i = if i = L.length then q else gc L i := by
  by_cases e : i = L.length
  · rw [if_pos e, e]
    simp [gc, List.getD]
  · rw [if_neg e]
    simp [gc, List.getD, List.getElem?_append_left (show i < L.length by omega)]
theorem atg_more {L : List Pc} {q : Pc} (h1 : 1 ≤ L.length) : ∀ i, i ≤ L.length → atg (L ++ [q]) i = atg L i
  | 0, _ => by
    show (gc (L ++ [q]) 0).f = (gc L 0).f
    rw [gc_more L q 0 (by omega), if_neg (by omega)]
  | i + 1, hi => by
    show atg (L ++ [q]) i + (cnt (gc (L ++ [q]) i).s : Int) = atg L i + (cnt (gc L i).s : Int)
    rw [atg_more h1 i (by omega), gc_more L q i (by omega), if_neg (by omega)]
theorem alk_more {L : List Pc} {q : Pc} {B : Int} : ∀ i, i ≤ L.length → alk (L ++ [q]) B i = alk L B i
  | 0, _ => rfl
  | i + 1, hi => by
    show alk (L ++ [q]) B i ++ _ = alk L B i ++ _
    rw [alk_more i (by omega), gc_more L q i (by omega), if_neg (by omega)]
theorem app_more {L : List Pc} {B : Int} {r : ByteArray} (hp : AppPre L B r) (hf : ¬ AppFits L r) (h20 : L.length ≠ 20) : AppLaw L B r (L ++ [⟨lastEnd L L.length, rec r, ix (rec r)⟩]) B := by
  obtain ⟨hg, hr, h60⟩ := hp
  have hone := hg.one
  have hmany := hg.many
  have hgp := (hg.ps (L.length - 1) (by omega)).1
  have hlast := hg.last rfl
  have hB := hg.end0
  have hfew : endg L - (gc L 0).f ≤ 60 := hg.few
  have hcl : cnt (gc L (L.length - 1)).s ≠ 0 := fun e => by
    have h1 := (good_empty hgp).1 e
    exact hf (app_empty hr h1)
  rw [hlast] at h60 ⊢
  obtain ⟨c1, c2⟩ := rec_alone r hr
  have hz := rec_size r hr
  obtain ⟨q, hq⟩ : ∃ q : Pc, q = ⟨endg L, rec r, ix (rec r)⟩ := ⟨_, rfl⟩
  have hqf : q.f = endg L := by rw [hq]
  have hqs : q.s = rec r := by rw [hq]
  have hqx : q.x = ix (rec r) := by rw [hq]
  have hqc : cnt q.s = 1 := by rw [hqs]; exact c1
  rw [← hq]
  have hgq : GoodP q := ⟨by rw [hqs, hz]; omega, by rw [hqs]; exact c2, by rw [hqx, hqs]⟩
  have hl : (L ++ [q]).length = L.length + 1 := by simp
  have hat := atg_more (q := q) hone
  have e0 : (gc (L ++ [q]) 0).f = (gc L 0).f := hat 0 (by omega)
  have hend : endg (L ++ [q]) = endg L + 1 := by
    unfold endg
    rw [hl]
    show atg (L ++ [q]) L.length + (cnt (gc (L ++ [q]) L.length).s : Int) = _
    rw [hat _ (Nat.le_refl _), gc_more L q _ (Nat.le_refl _), if_pos rfl, hqc]
    rfl
  refine ⟨hg, ⟨by rw [hl]; omega, by rw [hl]; omega, by rw [e0]; exact hg.f0, by rw [e0]; exact hg.f1, fun i hi => ?_, by rw [e0]; exact hg.b0, ?_, ?_⟩, rfl, ?_, hend⟩
  · rw [hl] at hi
    refine ⟨?_, ?_, fun h3 => ?_⟩
    · rw [gc_more _ _ _ (by omega)]
      split
      · exact hgq
      · exact (hg.ps i (by omega)).1
    · rw [hat i (by omega), gc_more _ _ _ (by omega)]
      split
      · rename_i e
        rw [hqf, e]
        rfl
      · exact (hg.ps i (by omega)).2.1
    · rw [hl] at h3
      rw [gc_more _ _ _ (by omega), if_neg (by omega)]
      by_cases e : i = L.length - 1
      · rw [e]
        exact hcl
      · exact (hg.ps i (by omega)).2.2 (by omega)
  · rw [e0, gc_more L q 0 (by omega), if_neg (by omega)]
    exact hg.b1
  · have : atg (L ++ [q]) (L ++ [q]).length = endg L + 1 := hend
    rw [this, e0]
    omega
  · show alk (L ++ [q]) B (L ++ [q]).length = _
    rw [hl]
    show alk (L ++ [q]) B L.length ++ fl B (gc (L ++ [q]) L.length).f (gc (L ++ [q]) L.length).s (cnt (gc (L ++ [q]) L.length).s) = _
    rw [alk_more _ (Nat.le_refl _), gc_more L q _ (Nat.le_refl _), if_pos rfl, hqc, hqf, hqs]
    refine congrArg (fun x => alk L B L.length ++ x) ?_
    have h9 := fl_yes (B := B) (f := endg L) (s := rec r) (k := 0) (by omega)
    have h8 : pl (rec r) 0 0 = 0 := rfl
    have h7 : fl B (endg L) (rec r) 0 = [] := rfl
    rw [h8, h7, app_rtx0 r hr, List.nil_append] at h9
    exact h9
theorem appLaw {L L' : List Pc} {B B' : Int} {r : ByteArray} (h : AppIs L B r L' B' true) : AppLaw L B r L' B' := by
  classical
  by_cases hp : AppPre L B r
  · by_cases hf : AppFits L r
    · obtain ⟨_, h1, h2⟩ := h.put hp hf
      rw [h1, h2]
      exact app_put hp hf
    · by_cases h3 : L.length = 20
      · have := (h.full hp hf h3).1
        cases this
      · obtain ⟨_, h1, h2⟩ := h.more hp hf h3
        rw [h1, h2]
        exact app_more hp hf h3
  · have := (h.no hp).1
    cases this
/-- The record that was put behind is told at the old end. -/
theorem AppLaw.read {L L' : List Pc} {B B' : Int} {r : ByteArray} (h : AppLaw L B r L' B') : readRes L' B' (endg L) = some r := by
  have h1 := h.g.end0
  have h2 := h.fin
  have h3 := h.b
  have hl := all_len h.g
  unfold readRes
  rw [if_pos ⟨h.g', by omega, by omega⟩, ← h.g'.read (by omega) (by omega), h.all, h3, show (endg L - B).toNat = (allG L B).length by omega]
  simp [List.getD]
/-- The first pieces, and one behind them. -/
theorem gc_cut (L : List Pc) (q : Pc) (K i : Nat) (hK : K < L.length) (hi : i ≤ K) : gc (L.take K ++ [q]) i = if i = K then q else gc L i := by
  have hl : (L.take K).length = K := by simp; omega
  have := gc_more (L.take K) q i (by omega)
  rw [hl] at this
  rw [this]
  split
  · rfl
  · simp [gc, List.getD, show i < K by omega]
theorem alk_front (L : List Pc) (B : Int) (i : Nat) : ∀ m, alk L B i <+: alk L B (i + m)
  | 0 => List.prefix_refl _
  | m + 1 => (alk_front L B i m).trans (List.prefix_append _ _)
theorem cutLaw {L : List Pc} {B o : Int} (h : CutOk L B o) : GoodG (cutL L o) B ∧ endg (cutL L o) = o ∧ allG (cutL L o) B = (allG L B).take (o - B).toNat := by
  obtain ⟨hg, hBo, hoE⟩ := h
  have hone := hg.one
  have hmany := hg.many
  have hK := cutK_lt (o := o) hone
  obtain ⟨hs1, hs2⟩ := cut_spot hg hBo hoE
  unfold cutL
  obtain ⟨K, hKK⟩ : ∃ K, K = cutK L o := ⟨_, rfl⟩
  rw [← hKK] at hK hs1 hs2 ⊢
  have hps := hg.ps K hK
  obtain ⟨p, hp⟩ : ∃ p, p = gc L K := ⟨_, rfl⟩
  have hpf : p.f = atg L K := by rw [hp]; exact hps.2.1
  have hgp : GoodP p := by rw [hp]; exact hps.1
  rw [← hp] at hs1 hs2 ⊢
  obtain ⟨t, ht⟩ : ∃ t, t = (o - p.f).toNat := ⟨_, rfl⟩
  have htc : t ≤ cnt p.s := by omega
  obtain ⟨u, hu⟩ : ∃ u, u = p.s.extract 0 (pl p.s 0 t) := ⟨_, rfl⟩
  have hcut := cut_cnt p.s t htc
  have hcw := cut_wh p.s t htc
  rw [← hu] at hcut hcw
  obtain ⟨hc1, hc2⟩ := hcut
  have hple := pl_le p.s t
  have hus : u.size = pl p.s 0 t := by rw [hu]; simp; omega
  obtain ⟨q, hq⟩ : ∃ q, q = cutP p o := ⟨_, rfl⟩
  have hqf : q.f = p.f := by rw [hq, cutP]
  have hqs : q.s = u := by rw [hq, hu, cutP, ht]
  have hqx : q.x = ix u := by rw [hq, hu, cutP, ht]
  rw [← hq]
  have hqc : cnt q.s = t := by rw [hqs]; exact hc1
  have hgq : GoodP q := ⟨by rw [hqs, hus]; have := hgp.1; omega, by rw [hqs, hcw, hus], by rw [hqx, hqs]⟩
  have hgc := gc_cut L q K
  have hl : (L.take K ++ [q]).length = K + 1 := by simp; omega
  have hat : ∀ i, i ≤ K → atg (L.take K ++ [q]) i = atg L i := fun i => by
    induction i with
    | zero =>
      intro _
      show (gc (L.take K ++ [q]) 0).f = (gc L 0).f
      rw [hgc 0 hK (by omega)]
      split
      · rename_i e
        rw [hqf, hp, e]
      · rfl
    | succ i ih =>
      intro hi
      show atg (L.take K ++ [q]) i + (cnt (gc (L.take K ++ [q]) i).s : Int) = atg L i + (cnt (gc L i).s : Int)
      rw [ih (by omega), hgc i hK (by omega), if_neg (by omega)]
  have e0 : (gc (L.take K ++ [q]) 0).f = (gc L 0).f := hat 0 (by omega)
  have hend : endg (L.take K ++ [q]) = o := by
    unfold endg
    rw [hl]
    show atg (L.take K ++ [q]) K + (cnt (gc (L.take K ++ [q]) K).s : Int) = _
    rw [hat K (Nat.le_refl _), hgc K hK (Nat.le_refl _), if_pos rfl, hqc]
    omega
  have hfew : endg L - (gc L 0).f ≤ 60 := hg.few
  have hgood : GoodG (L.take K ++ [q]) B := by
    refine ⟨by rw [hl]; omega, by rw [hl]; omega, by rw [e0]; exact hg.f0, by rw [e0]; exact hg.f1, fun i hi => ?_, by rw [e0]; exact hg.b0, ?_, ?_⟩
    · rw [hl] at hi
      refine ⟨?_, ?_, fun h3 => ?_⟩
      · rw [hgc i hK (by omega)]
        split
        · exact hgq
        · exact (hg.ps i (by omega)).1
      · rw [hat i (by omega), hgc i hK (by omega)]
        split
        · rename_i e
          rw [hqf, hpf, e]
        · exact (hg.ps i (by omega)).2.1
      · rw [hl] at h3
        rw [hgc i hK (by omega), if_neg (by omega)]
        exact (hg.ps i (by omega)).2.2 (by omega)
    · rw [e0, hgc 0 hK (by omega)]
      split
      · rename_i e
        rw [hqc]
        have h1 : p.f = (gc L 0).f := by rw [hp, ← e]
        omega
      · exact hg.b1
    · have : atg (L.take K ++ [q]) (L.take K ++ [q]).length = o := hend
      rw [this, e0]
      omega
  refine ⟨hgood, hend, ?_⟩
  have hak : ∀ i, i ≤ K → alk (L.take K ++ [q]) B i = alk L B i := fun i => by
    induction i with
    | zero => intro _; rfl
    | succ i ih =>
      intro hi
      show alk (L.take K ++ [q]) B i ++ _ = alk L B i ++ _
      rw [ih (by omega), hgc i hK (by omega), if_neg (by omega)]
  have e1 : allG (L.take K ++ [q]) B = alk L B K ++ fl B p.f p.s t := by
    show alk (L.take K ++ [q]) B (L.take K ++ [q]).length = _
    rw [hl]
    show alk (L.take K ++ [q]) B K ++ fl B (gc (L.take K ++ [q]) K).f (gc (L.take K ++ [q]) K).s (cnt (gc (L.take K ++ [q]) K).s) = _
    rw [hak K (Nat.le_refl _), hgc K hK (Nat.le_refl _), if_pos rfl, hqc, hqf, hqs]
    congr 1
    refine fl_congr t (fun j hj => ?_)
    have hfx := (front_ext p.s (pl p.s 0 t)).2 j
    rw [← hu, hc1] at hfx
    exact (hfx hj).symm
  have hpre : allG (L.take K ++ [q]) B <+: allG L B := by
    rw [e1]
    have h1 : alk L B K ++ fl B p.f p.s t <+: alk L B (K + 1) := by
      show _ <+: alk L B K ++ fl B (gc L K).f (gc L K).s (cnt (gc L K).s)
      rw [← hp]
      refine (List.prefix_append_right_inj _).2 ?_
      obtain ⟨m, hm⟩ : ∃ m, cnt p.s = t + m := ⟨_, (Nat.add_sub_of_le htc).symm⟩
      rw [hm]
      exact fl_front _ _ _ _ _
    refine h1.trans ?_
    obtain ⟨m, hm⟩ : ∃ m, L.length = K + 1 + m := ⟨L.length - (K + 1), by omega⟩
    show _ <+: alk L B L.length
    rw [hm]
    exact alk_front _ _ _ _
  have hlen := all_len hgood
  rw [hend] at hlen
  have h2 := List.prefix_iff_eq_take.1 hpre
  rw [show (o - B).toNat = (allG (L.take K ++ [q]) B).length by omega]
  exact h2
theorem fl_none {B f : Int} {s : ByteArray} {k : Nat} (h : f + (k : Int) ≤ B) : fl B f s k = [] := by
  have := fl_len B f s k
  exact List.eq_nil_of_length_eq_zero (by omega)
theorem fl_back {B o f : Int} {s : ByteArray} (hBo : B ≤ o) : ∀ k, fl o f s k <:+ fl B f s k
  | 0 => List.suffix_refl _
  | k + 1 => by
    by_cases h : o ≤ f + (k : Int)
    · rw [fl_yes h, fl_yes (show B ≤ f + (k : Int) by omega)]
      obtain ⟨t, ht⟩ := fl_back (f := f) (s := s) hBo k
      exact ⟨t, by rw [← ht, List.append_assoc]⟩
    · rw [fl_no h, fl_none (by omega)]
      exact List.nil_suffix
theorem fl_all {B f : Int} {s : ByteArray} (h : B ≤ f) : ∀ k, fl B f s k = rk s k
  | 0 => rfl
  | k + 1 => by rw [fl_yes (by omega), rk_succ, fl_all h k]
theorem dropLaw {L : List Pc} {B o : Int} (h : CutOk L B o) (hsm : ∀ i, i < L.length → (gc L i).f ≤ 100000) : GoodG (dropW L o) o ∧ allG (dropW L o) o = (allG L B).drop (o - B).toNat := by
  obtain ⟨hg, hBo, hoE⟩ := h
  have hone := hg.one
  rw [drop_spot hg]
  have hle := pcAt_le L o (L.length - 1)
  have hpat := pcAt_at L o (L.length - 1)
  have hnx := pcAt_next L o (L.length - 1)
  obtain ⟨K, hK⟩ : ∃ K, K = pcAt L o (L.length - 1) := ⟨_, rfl⟩
  rw [← hK] at hle hpat hnx ⊢
  have hKl : K < L.length := by omega
  have hps := fun i (hi : i < L.length) => hg.ps i hi
  have hgc : ∀ i, gc (L.drop K) i = gc L (K + i) := fun i => by simp [gc, List.getD]
  have hl : (L.drop K).length = L.length - K := by simp
  have hfK := (hps K hKl).2.1
  have hat : ∀ i, atg (L.drop K) i = atg L (K + i) := fun i => by
    induction i with
    | zero =>
      show (gc (L.drop K) 0).f = _
      rw [hgc 0, Nat.add_zero]
      exact hfK
    | succ i ih =>
      show atg (L.drop K) i + (cnt (gc (L.drop K) i).s : Int) = atg L (K + i) + (cnt (gc L (K + i)).s : Int)
      rw [ih, hgc i]
  have hend : endg (L.drop K) = endg L := by
    unfold endg
    rw [hl, hat]
    congr 1
    omega
  have hm0 := atg_mono2 L (Nat.zero_le K)
  have hz0 : atg L 0 = (gc L 0).f := rfl
  have hfo : (gc L K).f ≤ o := by
    rcases hpat with e | e
    · rw [e]
      have := hg.b0
      omega
    · exact e
  have hoc : o ≤ (gc L K).f + (cnt (gc L K).s : Int) := by
    have e1 : atg L (K + 1) = (gc L K).f + (cnt (gc L K).s : Int) := by rw [hfK]; rfl
    by_cases e : K + 1 < L.length
    · have h1 := hnx (K + 1) (by omega) (by omega)
      rw [(hps (K + 1) e).2.1] at h1
      omega
    · have e2 : K + 1 = L.length := by omega
      rw [e2] at e1
      have : endg L = atg L L.length := rfl
      omega
  have hfew : endg L - (gc L 0).f ≤ 60 := hg.few
  have hmany := hg.many
  have hf0 := hg.f0
  have e0 : gc (L.drop K) 0 = gc L K := by rw [hgc 0, Nat.add_zero]
  have hgood : GoodG (L.drop K) o := by
    refine ⟨by rw [hl]; omega, by rw [hl]; omega, by rw [e0, hfK]; omega, by rw [e0]; exact hsm K hKl, fun i hi => ?_, by rw [e0]; exact hfo, by rw [e0]; exact hoc, ?_⟩
    · rw [hl] at hi
      have hi' : K + i < L.length := by omega
      refine ⟨by rw [hgc i]; exact (hps _ hi').1, by rw [hat i, hgc i]; exact (hps _ hi').2.1, fun h3 => ?_⟩
      rw [hl] at h3
      rw [hgc i]
      exact (hps _ hi').2.2 (by omega)
    · have : atg (L.drop K) (L.drop K).length = endg L := hend
      rw [this, e0, hfK]
      omega
  refine ⟨hgood, ?_⟩
  have key : ∀ i, K + (i + 1) ≤ L.length → alk (L.drop K) o (i + 1) <:+ alk L B (K + (i + 1)) := fun i => by
    induction i with
    | zero =>
      intro _
      show [] ++ fl o (gc (L.drop K) 0).f (gc (L.drop K) 0).s (cnt (gc (L.drop K) 0).s) <:+ alk L B K ++ fl B (gc L K).f (gc L K).s (cnt (gc L K).s)
      rw [e0, List.nil_append]
      exact (fl_back hBo _).trans (List.suffix_append _ _)
    | succ i ih =>
      intro hi
      obtain ⟨t, ht⟩ := ih (by omega)
      have hf := hnx (K + (i + 1)) (by omega) (by omega)
      refine ⟨t, ?_⟩
      show t ++ (alk (L.drop K) o (i + 1) ++ fl o (gc (L.drop K) (i + 1)).f (gc (L.drop K) (i + 1)).s (cnt (gc (L.drop K) (i + 1)).s)) = alk L B (K + (i + 1)) ++ fl B (gc L (K + (i + 1))).f (gc L (K + (i + 1))).s (cnt (gc L (K + (i + 1))).s)
      rw [hgc (i + 1), ← List.append_assoc, ht, fl_all (by omega), fl_all (by omega)]
  have hsuf : allG (L.drop K) o <:+ allG L B := by
    have := key (L.length - K - 1) (by omega)
    rw [show L.length - K - 1 + 1 = (L.drop K).length by omega, show K + (L.drop K).length = L.length by omega] at this
    exact this
  have hl1 := all_len hgood
  have hl2 := all_len hg
  rw [hend] at hl1
  have h2 := List.suffix_iff_eq_drop.1 hsuf
  rw [show (o - B).toNat = (allG L B).length - (allG (L.drop K) o).length by omega]
  exact h2
end Go.Proofs.YtbcljhafdpnjbabDoor.L6

namespace Go.Proofs.YtbcljhafdpnjbabDoor.L6
open Go.RowKit L1
set_option linter.unusedVariables false

/-- A piece that a call hands back, its Index in new memory, and two more. -/
def RetP (w : World) (p : Pc) (left : Int) (ok : Bool) (e : Ending) (w' : World) : Prop :=
  ∃ a q, e = .returned (.tuple #[.agg #[.int .i64 p.f, .string p.s, .slice a p.x.length q], .int .i64 left, .bool ok]) ∧ w'.ownsRow w.heap.size 3 1 (.slice a p.x.length q) p.x.length (p.x.map (Value.int .i64)) ∧ Below w.heap.size w w'
/-- What RecoverPiece answers. -/
structure RecIs (f : Int) (s : ByteArray) (p : Pc) (left : Int) (ok : Bool) : Prop where
  yes : 0 ≤ f ∧ f ≤ 1000 ∧ s.size ≤ 60 → ok = true ∧ p = ⟨f, s.extract 0 (wh s), ix s⟩ ∧ left = (s.size : Int) - (wh s : Int)
  no : ¬ (0 ≤ f ∧ f ≤ 1000 ∧ s.size ≤ 60) → ok = false ∧ p = eC ∧ left = 0
theorem rec_is (f : Int) (s : ByteArray) : ∃ p left ok, RecIs f s p left ok ∧ p.x.length ≤ 60 := by
  by_cases h : 0 ≤ f ∧ f ≤ 1000 ∧ s.size ≤ 60
  · refine ⟨_, _, true, ⟨fun _ => ⟨rfl, rfl, rfl⟩, fun h2 => absurd h h2⟩, ?_⟩
    show (ix s).length ≤ 60
    unfold ix
    rw [ixk_len]
    have := cnt_le s
    omega
  · exact ⟨_, _, false, ⟨fun h2 => absurd h2 h, fun _ => ⟨rfl, rfl, rfl⟩⟩, Nat.zero_le _⟩

set_option maxRecDepth 100000 in
set_option maxHeartbeats 1000000 in
theorem implRecover_any (f : Int) (s : ByteArray) (w : World) (hs : s.size ≤ 1048576) (ht : Tab w) (p : Pc) (left : Int) (ok : Bool) (hr : RecIs f s p left ok) :
    Calls Tryd.prog 26 #[.int .i64 f, .string s] w (RetP w p left ok) := by
  by_cases h : 0 ≤ f ∧ f ≤ 1000 ∧ s.size ≤ 60
  · obtain ⟨rfl, rfl, rfl⟩ := hr.yes h
    have C := hide (fun wx (hb : Below w.heap.size w wx) => (wholePiece_any f s wx hs (ht.below hb)).mono (R' := fun e w2 => ∃ a2 q2, e = .returned (.agg #[.int .i64 f, .string (s.extract 0 (wh s)), .slice a2 (ix s).length q2]) ∧ w2.ownsRow wx.heap.size 3 1 (.slice a2 (ix s).length q2) (ix s).length ((ix s).map (Value.int .i64)) ∧ Below wx.heap.size wx w2) (by
      rintro e w2 ⟨v2, rfl, ho2, hb2⟩
      obtain ⟨a2, q2, rfl, _, _⟩ := own_form ho2
      exact ⟨a2, q2, rfl, ho2, hb2⟩))
    have hw := wh_le s
    unfold RetP
    simp only
    have hys : (s.extract 0 (wh s)).size = wh s := by simp; omega
    obtain ⟨l, hl⟩ : ∃ l, l = ix s := ⟨_, rfl⟩
    rw [← hl] at C ⊢
    obtain ⟨N, hN⟩ : ∃ N, N = l.length := ⟨_, rfl⟩
    rw [← hN] at C ⊢
    obtain ⟨y, hy⟩ : ∃ y, y = s.extract 0 (wh s) := ⟨_, rfl⟩
    rw [← hy] at C hys ⊢
    obtain ⟨k, hk⟩ : ∃ k, k = wh s := ⟨_, rfl⟩
    rw [← hk] at hys hw ⊢
    have h1 : ¬ f < 0 := by omega
    have h2 : ¬ (1000 : Int) < f := by omega
    have h3 : ¬ (60 : Int) < (s.size : Int) := by omega
    have hwr : IntKind.i64.wrap ((s.size : Int) - (k : Int)) = (s.size : Int) - (k : Int) := wrap6 (by omega) (by omega)
    clear hr ht h hl hN hy hk
    go_enter Tryd.func26, Tryd.ntmps26
    go_wp2_with fail
    refine (C.out _ ((Below.refl _ _).alloc (Nat.le_refl _) _)).mono ?_
    rintro e w1 ⟨a2, q2, rfl, ho, hb⟩
    obtain ⟨c0, c1, c2, c3, c4, c5⟩ := blk3 ((hb.block w.heap.size (by simp)).trans (blk_new w (.cells #[.int .i64 0, .string ByteArray.empty, .slice none 0 0] 50 (0, 0))))
    have hlt : w.heap.size < w1.heap.size := by have := hb.size; simp at this; omega
    have B1 := hide (((Below.refl w.heap.size w).alloc (Nat.le_refl _) (.cells #[.int .i64 0, .string ByteArray.empty, .slice none 0 0] 50 (0, 0))).trans (hb.mono (by simp)))
    have ho' : w1.ownsRow (w.heap.size + 1) 3 1 (.slice a2 N q2) N (l.map (Value.int .i64)) := by
      simp only [World.size_alloc] at ho
      exact ho
    have O := hide ho'
    obtain ⟨W, hW⟩ : ∃ W, W = w1.alloc (.cells #[.int .i64 f, .string y, .slice a2 N q2] 50 (0, 0)) := ⟨_, rfl⟩
    have OW : Hid (W.ownsRow (w.heap.size + 1) 3 1 (.slice a2 N q2) N (l.map (Value.int .i64))) := by show W.ownsRow _ _ _ _ _ _; rw [hW]; exact own_belowC O.out ((Below.refl _ _).alloc (Nat.le_refl _) _)
    have BW : Hid (Below w.heap.size w W) := by show Below _ _ _; rw [hW]; exact B1.out.alloc B1.out.size _
    obtain ⟨d0, d1, d2, _, _, _⟩ := blk3 (show W.heap[w1.heap.size]? = some (.cells #[.int .i64 f, .string y, .slice a2 N q2] 50 (0, 0)) by rw [hW]; exact blk_new _ _)
    have hbW : Below w1.heap.size w1 W := by rw [hW]; exact (Below.refl _ _).alloc (Nat.le_refl _) _
    obtain ⟨g0, g1, g2, g3, g4, g5⟩ := blk3 ((hbW.block w.heap.size hlt).trans ((hb.block w.heap.size (by simp)).trans (blk_new w (.cells #[.int .i64 0, .string ByteArray.empty, .slice none 0 0] 50 (0, 0)))))
    have hne : ¬ w1.heap.size = w.heap.size := by omega
    clear ho hb ho' hbW O c0 c1 c2 c3 c4 c5 B1
    go_wp2
    rw [← hW]
    clear hW
    go_region
    go_wp2
    refine bodyPost_ret (v := .tuple #[.agg #[.int .i64 f, .string y, .slice a2 N q2], .int .i64 ((s.size : Int) - (k : Int)), .bool true]) (by simp [results, Tryd.f26, go_sem, g0, g1, g2]) rfl ⟨_, _, rfl, ?_, ?_⟩
    · have z : w.heap.size < w.heap.size + 1 := by omega
      exact own_belowC (own_baseC (b1 := w.heap.size + 1) (own_setC (own_setC (own_setC OW.out ⟨_, _, none⟩ _ z) ⟨_, _, none⟩ _ z) ⟨_, _, none⟩ _ z) (by omega)) (Below.refl _ _).drew
    · exact (((BW.out.setCell (p := ⟨_, _, none⟩) (Nat.le_refl _) _).setCell (p := ⟨_, _, none⟩) (Nat.le_refl _) _).setCell (p := ⟨_, _, none⟩) (Nat.le_refl _) _).drew
  · obtain ⟨rfl, rfl, rfl⟩ := hr.no h
    unfold RetP eC
    simp only [List.length_nil, List.map_nil]
    clear hr ht
    by_cases h1 : f < 0
    · clear h
      go_enter Tryd.func26, Tryd.ntmps26
      go_wp2
      refine bodyPost_ret (v := .tuple #[.agg #[.int .i64 0, .string ByteArray.empty, .slice none 0 0], .int .i64 0, .bool false]) (by simp [results, Tryd.f26, go_sem]; rfl) rfl ⟨none, 0, rfl, World.ownsRow_nil _ _ _ _, (Below.refl _ _).alloc (Nat.le_refl _) _⟩
    · by_cases h2 : (1000 : Int) < f
      · clear h
        go_enter Tryd.func26, Tryd.ntmps26
        go_wp2
        refine bodyPost_ret (v := .tuple #[.agg #[.int .i64 0, .string ByteArray.empty, .slice none 0 0], .int .i64 0, .bool false]) (by simp [results, Tryd.f26, go_sem]; rfl) rfl ⟨none, 0, rfl, World.ownsRow_nil _ _ _ _, (Below.refl _ _).alloc (Nat.le_refl _) _⟩
      · have h3 : (60 : Int) < (s.size : Int) := by omega
        clear h
        go_enter Tryd.func26, Tryd.ntmps26
        go_wp2
        refine bodyPost_ret (v := .tuple #[.agg #[.int .i64 0, .string ByteArray.empty, .slice none 0 0], .int .i64 0, .bool false]) (by simp [results, Tryd.f26, go_sem]; rfl) rfl ⟨none, 0, rfl, World.ownsRow_nil _ _ _ _, (Below.refl _ _).alloc (Nat.le_refl _) _⟩

set_option maxRecDepth 100000 in
set_option maxHeartbeats 1000000 in
theorem specRecover_any (f : Int) (s : ByteArray) (w : World) (hs : s.size ≤ 1048576) (p : Pc) (left : Int) (ok : Bool) (hr : RecIs f s p left ok) :
    Calls Tryd.prog 27 #[.int .i64 f, .string s] w (RetP w p left ok) := by
  by_cases h : 0 ≤ f ∧ f ≤ 1000 ∧ s.size ≤ 60
  · obtain ⟨rfl, rfl, rfl⟩ := hr.yes h
    have hw := wh_le s
    have C1 := hide (fun w => l6Starts_any s w hs)
    have hcl := cnt_le s
    have hix := whole_ix s
    have CI := hide (fun w => l1In_any f 0 1000 w true (by simp; omega))
    have q := fun w => slice_to w s (wh s) hw
    have hys : (s.extract 0 (wh s)).size ≤ 1048576 := by simp; omega
    obtain ⟨m, hm⟩ : ∃ m, m = cnt s := ⟨_, rfl⟩
    rw [← hm] at C1
    unfold RetP
    simp only
    have C2 := hide (fun wx => (l6Piece_any f (s.extract 0 (wh s)) wx hys).mono (R' := fun e w2 => ∃ a2 q2, e = .returned (.agg #[.int .i64 f, .string (s.extract 0 (wh s)), .slice a2 (ix s).length q2]) ∧ w2.ownsRow wx.heap.size 3 1 (.slice a2 (ix s).length q2) (ix s).length ((ix s).map (Value.int .i64)) ∧ Below wx.heap.size wx w2) (by
      rintro e w2 ⟨v2, rfl, ho2, hb2⟩
      rw [hix] at ho2
      obtain ⟨a2, q2, rfl, _, _⟩ := own_form ho2
      exact ⟨a2, q2, rfl, ho2, hb2⟩))
    obtain ⟨l, hl⟩ : ∃ l, l = ix s := ⟨_, rfl⟩
    rw [← hl] at C2 ⊢
    obtain ⟨N, hN⟩ : ∃ N, N = l.length := ⟨_, rfl⟩
    rw [← hN] at C2 ⊢
    obtain ⟨y, hy⟩ : ∃ y, y = s.extract 0 (wh s) := ⟨_, rfl⟩
    rw [← hy] at C2 q ⊢
    obtain ⟨k, hk⟩ : ∃ k, k = wh s := ⟨_, rfl⟩
    rw [← hk] at hw C1 q ⊢
    have h3 : ¬ (60 : Int) < (s.size : Int) := by omega
    clear hr h hl hN hy hk hys hix hm hcl
    go_enter Tryd.func27, Tryd.ntmps27
    go_wp2_with fail
    refine (CI.out _).mono ?_
    rintro e w0 ⟨rfl, rfl⟩
    go_wp2_with fail
    refine (C1.out _).mono ?_
    rintro e w1 ⟨v1, rfl, ho1, hb1⟩
    obtain ⟨a1, q1, rfl, s1, _⟩ := own_form ho1
    have G1 := (hb1.block w.heap.size (by simp)).trans (blk_new w (.cells #[.int .i64 0, .string ByteArray.empty, .slice none 0 0] 50 (0, 0)))
    have hlt : w.heap.size < w1.heap.size := by have := hb1.size; simp at this; omega
    have B1 := hide (((Below.refl w.heap.size w).alloc (Nat.le_refl _) (.cells #[.int .i64 0, .string ByteArray.empty, .slice none 0 0] 50 (0, 0))).trans (hb1.mono (by simp)))
    have HG := hide G1
    clear ho1 hb1 s1 G1
    go_wp2_with fail
    refine (C2.out _).mono ?_
    rintro e w2 ⟨a2, q2, rfl, ho, hb⟩
    obtain ⟨g0, g1, g2, g3, g4, g5⟩ := blk3 ((hb.block w.heap.size hlt).trans HG.out)
    have B2 := hide (B1.out.trans (hb.mono B1.out.size))
    have O := hide ho
    clear ho hb
    go_wp2
    refine bodyPost_ret (v := .tuple #[.agg #[.int .i64 f, .string y, .slice a2 N q2], .int .i64 ((s.size : Int) - (k : Int)), .bool true]) (by simp [results, Tryd.f27, go_sem, g0, g1, g2]) rfl ⟨_, _, rfl, ?_, ?_⟩
    · exact own_baseC (b1 := w1.heap.size) (own_setC (own_setC (own_setC O.out ⟨_, _, none⟩ _ hlt) ⟨_, _, none⟩ _ hlt) ⟨_, _, none⟩ _ hlt) (by omega)
    · exact ((B2.out.setCell (p := ⟨_, _, none⟩) (Nat.le_refl _) _).setCell (p := ⟨_, _, none⟩) (Nat.le_refl _) _).setCell (p := ⟨_, _, none⟩) (Nat.le_refl _) _
  · obtain ⟨rfl, rfl, rfl⟩ := hr.no h
    unfold RetP eC
    simp only [List.length_nil, List.map_nil]
    clear hr
    by_cases h1 : 0 ≤ f ∧ f ≤ 1000
    · have CI := hide (fun w => l1In_any f 0 1000 w true (by simp; omega))
      have h3 : (60 : Int) < (s.size : Int) := by omega
      clear h h1
      go_enter Tryd.func27, Tryd.ntmps27
      go_wp2_with fail
      refine (CI.out _).mono ?_
      rintro e w0 ⟨rfl, rfl⟩
      go_wp2
      refine bodyPost_ret (v := .tuple #[.agg #[.int .i64 0, .string ByteArray.empty, .slice none 0 0], .int .i64 0, .bool false]) (by simp [results, Tryd.f27, go_sem]; rfl) rfl ⟨none, 0, rfl, World.ownsRow_nil _ _ _ _, (Below.refl _ _).alloc (Nat.le_refl _) _⟩
    · have CI := hide (fun w => l1In_any f 0 1000 w false (by simp; omega))
      clear h h1
      go_enter Tryd.func27, Tryd.ntmps27
      go_wp2_with fail
      refine (CI.out _).mono ?_
      rintro e w0 ⟨rfl, rfl⟩
      go_wp2
      refine bodyPost_ret (v := .tuple #[.agg #[.int .i64 0, .string ByteArray.empty, .slice none 0 0], .int .i64 0, .bool false]) (by simp [results, Tryd.f27, go_sem]; rfl) rfl ⟨none, 0, rfl, World.ownsRow_nil _ _ _ _, (Below.refl _ _).alloc (Nat.le_refl _) _⟩
end Go.Proofs.YtbcljhafdpnjbabDoor.L6

namespace Go.Proofs.YtbcljhafdpnjbabDoor.L6
open Go.RowKit L1
set_option linter.unusedVariables false

theorem info_str6 : (Tryd.prog.info? 9).map (fun i => (i.zero, i.size, i.bytes)) = some (some (.string ByteArray.empty), 1, 16) := by kernel_rfl
abbrev e0 : ByteArray := ByteArray.empty
/-- A list of texts lies in memory. -/
def SlT (w : World) (a : Option Addr) (xs : List ByteArray) : Prop := ∀ i, i < xs.length → ∃ b off, a = some ⟨b, off, none⟩ ∧ w.cell? ⟨b, off + i, none⟩ = some (.string (xs.getD i e0))
theorem SlT.below {w w' : World} {a : Option Addr} {xs : List ByteArray} (h : SlT w a xs) (hb : Below w.heap.size w w') : SlT w' a xs := fun i hi => by
  obtain ⟨b, off, ha, hc⟩ := h i hi
  exact ⟨b, off, ha, (hb.cell (p := ⟨b, off + i, none⟩) (blk_lt hc)).trans hc⟩
theorem slT_base {w w' : World} {a : Option Addr} {xs : List ByteArray} {base : Nat} (h : SlT w a xs) (hb : Below base w w') (hlt : ∀ x, a = some x → x.block < base) : SlT w' a xs := fun i hi => by
  obtain ⟨b, off, ha, hc⟩ := h i hi
  exact ⟨b, off, ha, (hb.cell (p := ⟨b, off + i, none⟩) (hlt ⟨b, off, none⟩ ha)).trans hc⟩
abbrev mapT (xs : List ByteArray) : List Value := xs.map Value.string
theorem mapT_get (xs : List ByteArray) (i : Nat) (h : i < xs.length) : (mapT xs)[i]? = some (.string (xs.getD i e0)) := by
  rw [List.getElem?_map, List.getElem?_eq_getElem h]
  simp [List.getD, List.getElem?_eq_getElem h]
abbrev OwT (w : World) (base : Nat) (v : Value) (xs : List ByteArray) : Prop := w.ownsRow base 9 1 v xs.length (mapT xs)
theorem own_formT {w : World} {base n : Nat} {v : Value} {xs : List ByteArray} (h : w.ownsRow base 9 1 v n (mapT xs)) : ∃ a cap, v = .slice a n cap ∧ SlT w a xs ∧ xs.length = n := by
  have hl := h.1
  simp at hl
  rcases h.2 with ⟨hv, h0⟩ | ⟨g, cap, cur, hv, _⟩
  · subst h0
    exact ⟨none, 0, hv, fun i hi => by omega, hl⟩
  · subst hv
    refine ⟨_, cap, rfl, fun i hi => ?_, hl⟩
    have := h.cells (g := g) rfl i _ (mapT_get xs i hi)
    rw [addr_add] at this
    exact ⟨g, 0, rfl, by simpa using this⟩
theorem own_slT {w : World} {base n cap : Nat} {a : Option Addr} {xs : List ByteArray} (h : w.ownsRow base 9 1 (.slice a n cap) n (mapT xs)) : SlT w a xs := by
  obtain ⟨b, q, e, s, _⟩ := own_formT h
  cases e
  exact s
theorem own_grownT {w w' : World} {base c n : Nat} {t : TypeId} {v : Value} {xs : List Value} {r : Option Nat} (h : w.ownsRow base t c v n xs) (hg : w.grownBy w' r) (hne : ∀ g, v.ownBlock = some g → r ≠ some g) : w'.ownsRow base t c v n xs := by
  refine ⟨h.1, ?_⟩
  rcases h.2 with h0 | ⟨g, cap, cur, hv, hb, hh, rest⟩
  · exact .inl h0
  · refine .inr ⟨g, cap, cur, hv, hb, ?_, rest⟩
    rw [hg.block g (Array.getElem?_eq_some_iff.1 hh).1 (fun e => hne g (by rw [hv]; rfl) e.symm)]
    exact hh
theorem mapT_one (xs : List ByteArray) : ∀ u ∈ mapT xs, u.oneCell' = true := fun u hu => by
  obtain ⟨x, _, rfl⟩ := List.mem_map.1 hu
  rfl
theorem cell_two_newT (w : World) (g : Nat) (hg : w.heap.size = g) (a b : Value) (t : TypeId) : ∀ j u, [a, b][j]? = some u → (w.alloc (.cells #[a, b] t)).cell? ((⟨g, 0, none⟩ : Addr).add j) = some u := by
  subst hg
  intro j u h
  rw [addr_add]
  match j, h with
  | 0, h => simp at h; subst h; simp
  | 1, h => simp at h; subst h; simp
  | j + 2, h => simp at h
theorem cell_one_newT (w : World) (g : Nat) (hg : w.heap.size = g) (a : Value) (t : TypeId) : ∀ j u, [a][j]? = some u → (w.alloc (.cells #[a] t)).cell? ((⟨g, 0, none⟩ : Addr).add j) = some u := by
  subst hg
  intro j u h
  rw [addr_add]
  match j, h with
  | 0, h => simp at h; subst h; simp
  | j + 1, h => simp at h
theorem SlT.at' {w : World} {a : Option Addr} {xs : List ByteArray} (h : SlT w a xs) (i : Nat) (hi : i < xs.length) : ∃ b off, a = some ⟨b, off, none⟩ ∧ w.cell? ⟨b, off + i, none⟩ = some (.string (xs.getD i ByteArray.empty)) := h i hi
end Go.Proofs.YtbcljhafdpnjbabDoor.L6

namespace Go.Proofs.YtbcljhafdpnjbabDoor.L6
open Go.RowKit L1
set_option linter.unusedVariables false

theorem alk_len_le {L : List Pc} {B : Int} (h : ∀ j, j < L.length → cnt (gc L j).s ≤ 60) : ∀ i, i ≤ L.length → (alk L B i).length ≤ 60 * i
  | 0, _ => by simp [alk]
  | i + 1, hi => by
    have h1 := alk_len_le (B := B) h i (by omega)
    have h2 := fl_len B (gc L i).f (gc L i).s (cnt (gc L i).s)
    have h3 := h i (by omega)
    show (alk L B i ++ fl B (gc L i).f (gc L i).s (cnt (gc L i).s)).length ≤ _
    rw [List.length_append]
    omega
/-- What is kept while a list of texts grows: blocks between two numbers, and one cell. -/
structure Gro (lo hi g : Nat) (B : Int) (w1 : World) (v : Value) (xs : List ByteArray) (w : World) : Prop where
  own : w.ownsRow (g + 1) 9 1 v xs.length (mapT xs)
  out : ∀ b, v.ownBlock = some b → b < lo ∨ hi ≤ b
  kept : ∀ k, lo ≤ k → k < hi → w.heap[k]? = w1.heap[k]?
  cell : w.cell? ⟨g, 1, none⟩ = some (.int .i64 B)
  size : w1.heap.size ≤ w.heap.size
  bel : Below g w1 w
theorem Gro.step {lo hi g : Nat} {B : Int} {w1 w w6 : World} {v v6 : Value} {xs : List ByteArray} {y : ByteArray} {ob : Obj} (h : Gro lo hi g B w1 v xs w) (hhi : hi ≤ w1.heap.size) (hg : g < w1.heap.size)
    (h6 : w6.ownsRow (g + 1) 9 1 v6 (xs.length + 1) (mapT xs ++ [.string y])) (g6 : (w.alloc ob).grownBy w6 v.ownBlock) (hat : v6.ownBlock = v.ownBlock ∨ v6.ownBlock = some (w.alloc ob).heap.size) : Gro lo hi g B w1 v6 (xs ++ [y]) w6 := by
  have hz := h.size
  have hal := (Below.refl w.heap.size w).alloc (Nat.le_refl _) ob
  refine ⟨?_, fun b hb => ?_, fun k h1 h2 => ?_, ?_, ?_, ?_⟩
  · rw [List.length_append]
    unfold mapT
    rw [List.map_append]
    exact h6
  · rcases hat with e | e
    · exact h.out b (by rw [← e]; exact hb)
    · rw [e] at hb
      simp at hb
      omega
  · rw [g6.block k (by simp; omega) (fun e => by have := h.out k e.symm; omega), hal.block k (by omega)]
    exact h.kept k h1 h2
  · refine grown_cell g6 ⟨g, 1, none⟩ (Go.Lib.cell?_alloc_some ob h.cell) (fun e => ?_)
    have := (own_ltC h.own g e.symm).1
    omega
  · have := g6.size
    simp at this
    omega
  · exact ((h.bel.alloc (by omega) ob).grown g6 (by simp; omega) (fun k hk => by have := (own_ltC h.own k hk).1; omega))
open Classical in
/-- What AllOf answers. -/
noncomputable def allRes (L : List Pc) (B : Int) : Option (List ByteArray) := if GoodG L B then some (allG L B) else none
theorem allRes_len (L : List Pc) (B : Int) : ((allRes L B).getD []).length ≤ 1200 := by
  unfold allRes
  split
  · rename_i h
    have h1 := alk_len_le (L := L) (B := B) (fun j hj => good_cnt (h.ps j hj).1) L.length (Nat.le_refl _)
    have h2 := h.many
    simp only [Option.getD_some]
    show (alk L B L.length).length ≤ _
    omega
  · simp
/-- Texts that a call hands back, in new memory, and whether there are some. -/
def RetT (w : World) (r : Option (List ByteArray)) (e : Ending) (w' : World) : Prop :=
  ∃ v, e = .returned (.tuple #[v, .bool r.isSome]) ∧ w'.ownsRow w.heap.size 9 1 v (r.getD []).length (mapT (r.getD [])) ∧ Below w.heap.size w w'
theorem retT_none {w w' : World} (hb : Below w.heap.size w w') : RetT w none (.returned (.tuple #[.slice none 0 0, .bool false])) w' := ⟨_, rfl, World.ownsRow_nil _ _ _ _, hb⟩
end Go.Proofs.YtbcljhafdpnjbabDoor.L6

namespace Go.Proofs.YtbcljhafdpnjbabDoor.L6
open Go.RowKit L1
set_option linter.unusedVariables false

theorem cut_twice {s t u : ByteArray} {b : Nat} (ht : t = s.extract 0 b) (hu : u = t.extract 0 (wh t)) : cnt u = cnt t ∧ cnt u ≤ cnt s ∧ ∀ j, j < cnt u → rtx u (pl u 0 j) = rtx s (pl s 0 j) := by
  have h1 := front_ext s b
  have h3 := front_ext t (wh t)
  rw [← ht] at h1
  rw [← hu] at h3
  have hc : cnt u = cnt t := by rw [hu]; exact whole_cnt t
  have h4 := h1.1
  exact ⟨hc, by omega, fun j hj => (h3.2 j hj).symm.trans (h1.2 j (by omega)).symm⟩
/-- What is known of the piece that is left. -/
structure LeftP (p q : Pc) (u : ByteArray) (b : Int) : Prop where
  f : q.f = p.f
  t : u = p.s.extract 0 (p.s.size - b.toNat)
  s : q.s = u.extract 0 (wh u)
  good : GoodP q
theorem left_of {p : Pc} (b : Int) (h : GoodP p) : ∃ q t, q = tornP p b ∧ t = tornS p b ∧ LeftP p q t b := by
  have hg := tornP_good b h
  obtain ⟨q, hq⟩ : ∃ q, q = tornP p b := ⟨_, rfl⟩
  obtain ⟨t, ht⟩ : ∃ t, t = tornS p b := ⟨_, rfl⟩
  rw [← hq] at hg
  refine ⟨q, t, hq, ht, by rw [hq, tornP], by rw [ht, tornS], ?_, hg⟩
  rw [hq, ht, tornP]
theorem torn_all {L : List Pc} {B b : Int} (h : TearOk L B b) : ∃ q t, q = tornP (lastP L) b ∧ t = tornS (lastP L) b ∧ GoodG (L.set (L.length - 1) q) B ∧ allG (L.set (L.length - 1) q) B <+: allG L B ∧ (b = 0 → (t.size : Int) - (wh t : Int) = 0 ∧ (allG (L.set (L.length - 1) q) B).length = (allG L B).length) := by
  have hone := h.1.one
  have hl := (h.1.ps (L.length - 1) (by omega)).1
  have hB := h.2.2
  obtain ⟨p, hp⟩ : ∃ p, p = gc L (L.length - 1) := ⟨_, rfl⟩
  have hp' : lastP L = p := hp.symm
  rw [← hp] at hl
  rw [hp'] at hB ⊢
  obtain ⟨q, t, hq, ht, hx⟩ := left_of b hl
  refine ⟨q, t, hq, ht, ?_⟩
  rw [← ht] at hB
  obtain ⟨c1, c2, c3⟩ := cut_twice hx.t hx.s
  have hgood : GoodG (L.set (L.length - 1) q) B := good_set h.1 (by rw [hx.f, hp]) hx.good (by rw [← hp]; exact c2) (by rw [hx.f, c1]; exact hB)
  obtain ⟨e1, e2⟩ := all_set (B := B) (p := q) hone
  have hpre : allG (L.set (L.length - 1) q) B <+: allG L B := by
    rw [e1, e2, ← hp]
    refine (List.prefix_append_right_inj _).2 ?_
    rw [hx.f, fl_congr (s := q.s) (t := p.s) (cnt q.s) c3]
    obtain ⟨m, hm⟩ : ∃ m, cnt p.s = cnt q.s + m := ⟨_, (Nat.add_sub_of_le c2).symm⟩
    rw [hm]
    exact fl_front _ _ _ _ _
  refine ⟨hgood, hpre, fun hb => ?_⟩
  have et : t = p.s := by
    rw [hx.t, hb]
    exact extract_all _
  have hw : wh p.s = p.s.size := hl.2.1
  have es : q.s = p.s := by
    rw [hx.s, et, hw]
    exact extract_all _
  refine ⟨by rw [et, hw]; omega, ?_⟩
  rw [e1, e2, ← hp, hx.f, es]
/-- What the law asks of a log whose end was torn. -/
structure TornLaw (L : List Pc) (B b : Int) (L' : List Pc) (B' left : Int) : Prop where
  g : GoodG L B
  g' : GoodG L' B'
  le : (allG L' B').length ≤ (allG L B).length
  front : (allG L B).take (allG L' B').length = allG L' B'
  none : b = 0 → left = 0 ∧ (allG L' B').length = (allG L B).length
theorem tornLaw {L L' : List Pc} {B b B' left : Int} (h : TearIs L B b L' B' left true) : TornLaw L B b L' B' left := by
  classical
  by_cases ht : TearOk L B b
  · obtain ⟨_, h1, h2, h3⟩ := h.yes ht
    obtain ⟨q, t, hq, hqt, g1, g2, g3⟩ := torn_all ht
    rw [← hq] at h1
    rw [← hqt] at h3
    rw [h1, h2, h3]
    exact ⟨ht.1, g1, g2.length_le, (List.prefix_iff_eq_take.1 g2).symm, g3⟩
  · have := (h.no ht).1
    cases this
/-- What the law asks of a piece that was recovered. -/
structure RecLaw (f : Int) (s : ByteArray) (p : Pc) (left : Int) : Prop where
  f0 : 0 ≤ f ∧ f ≤ 1000
  size : (p.s.size : Int) + left = (s.size : Int)
  le : p.s.size ≤ s.size
  front : s.extract 0 p.s.size = p.s
  again : RecIs f p.s p 0 true
  few : p.s.size ≤ 60
theorem recLaw {f left : Int} {s : ByteArray} {p : Pc} (h : RecIs f s p left true) : RecLaw f s p left := by
  classical
  by_cases hc : 0 ≤ f ∧ f ≤ 1000 ∧ s.size ≤ 60
  · obtain ⟨_, h1, h2⟩ := h.yes hc
    have hw := wh_le s
    obtain ⟨u, hu⟩ : ∃ u, u = s.extract 0 (wh s) := ⟨_, rfl⟩
    have hz : u.size = wh s := by rw [hu]; simp; omega
    have hwu : wh u = wh s := by rw [hu]; exact whole_wh s
    have hxu : ix u = ix s := by rw [hu]; exact whole_ix s
    have hall : u.extract 0 (wh u) = u := by rw [hwu, ← hz]; exact extract_all u
    rw [← hu] at h1
    have hps : p.s = u := by rw [h1]
    refine ⟨⟨hc.1, hc.2.1⟩, ?_, ?_, ?_, ?_, ?_⟩
    · rw [hps, hz, h2]
      omega
    · rw [hps]
      omega
    · rw [hps, hz]
      exact hu.symm
    · rw [hps]
      refine ⟨fun _ => ⟨rfl, ?_, ?_⟩, fun hn => absurd ⟨hc.1, hc.2.1, by omega⟩ hn⟩
      · rw [h1, hall, hxu]
      · rw [hwu, hz]
        omega
    · rw [hps]
      omega
  · have := (h.no hc).1
    cases this
end Go.Proofs.YtbcljhafdpnjbabDoor.L6

namespace Go.Proofs.YtbcljhafdpnjbabDoor.L6
open Go.RowKit L1
set_option linter.unusedVariables false

open Classical in
theorem tear_few {L L' : List Pc} {B b B' left : Int} {ok : Bool} (h : TearIs L B b L' B' left ok) : L'.length ≤ 20 ∧ ∀ i, i < L'.length → (gc L' i).x.length ≤ 60 := by
  by_cases ht : TearOk L B b
  · obtain ⟨_, h1, _, _⟩ := h.yes ht
    obtain ⟨q, t, hq, _, g1, _, _⟩ := torn_all ht
    rw [← hq] at h1
    rw [h1]
    exact ⟨g1.many, g1.small rfl⟩
  · obtain ⟨_, h1, _, _⟩ := h.no ht
    rw [h1]
    exact ⟨Nat.zero_le _, fun i hi => absurd hi (Nat.not_lt_zero _)⟩
theorem own_capT {w : World} {base n cap : Nat} {a : Option Addr} {ys : List Value} (h : w.ownsRow base 9 1 (.slice a n cap) n ys) : n ≤ cap ∧ (a = none → cap = 0) := by
  rcases h.2 with ⟨hv, h0⟩ | ⟨g, cp, cu, hv, hbg, hg, hle, _⟩
  · simp at hv
    obtain ⟨rfl, h2⟩ := hv
    omega
  · cases hv
    exact ⟨hle, fun e => by cases e⟩
/-- What AllOf hands back, as the laws take it. -/
theorem allOf_form {w : World} {l : List ByteArray} {n : Nat} (hn : l.length = n) : ∀ e w', RetT w (some l) e w' → ∃ a c, e = .returned (.tuple #[.slice a n c, .bool true]) ∧ SlT w' a l ∧ n ≤ c ∧ (a = none → c = 0) ∧ Below w.heap.size w w' := by
  rintro e w' ⟨v, rfl, ho, hb⟩
  simp only [Option.getD_some] at ho
  rw [hn] at ho
  obtain ⟨a, c, rfl, hs, _⟩ := own_formT ho
  obtain ⟨h1, h2⟩ := own_capT ho
  exact ⟨a, c, rfl, hs, h1, h2, hb⟩
theorem slT_take {w : World} {a : Option Addr} {xs ys : List ByteArray} {k : Nat} (h : SlT w a xs) (e : xs.take k = ys) : SlT w a ys := fun i hi => by
  have hi' : i < xs.length ∧ i < k := by rw [← e] at hi; simp at hi; omega
  obtain ⟨b, off, ha, hc⟩ := h i hi'.1
  refine ⟨b, off, ha, ?_⟩
  rw [hc, ← e]
  simp [List.getD, hi'.2]
theorem elem_strT : Tryd.prog.elem 32 = 9 := by kernel_rfl
theorem run_size_strT (w : World) : (sizeOf (Tryd.prog.elem 32)).run Tryd.prog w = .ok 1 w := by
  rw [elem_strT]
  simp [sizeOf, go_sem]
  rfl
/-- A list's first texts, as a slice. -/
theorem slice_toT (a : Option Addr) (n cap p : Nat) (hp : p ≤ n) (hc : n ≤ cap) (h0 : a = none → cap = 0) :
    ∃ c', ∀ w, (Instr.slice 32 (.slice a n cap) none (some (.int .i64 (p : Int))) none).run Tryd.prog w = .ok (.slice a p c') w := by
  refine ⟨cap, fun w => ?_⟩
  rw [run_slice_h w 32 a n cap (by rw [elem_strT]; exact Tryd.underlying32) .i64 (p : Int) (by omega) (by omega), run_size_strT]
  cases a with
  | none => have := h0 rfl; subst this; simp [sliced]
  | some x => obtain ⟨b, off, sp⟩ := x; simp [sliced, Addr.add]; try (split <;> simp_all)
theorem cnt_none : cnt ByteArray.empty = 0 := cnt_unique _ 0 (fun j hj => absurd hj (Nat.not_lt_zero _)) (rc_end (Nat.le_refl _))
theorem good_new : GoodG [eC] 0 := by
  have hc := cnt_none
  have hw : wh ByteArray.empty = 0 := by unfold wh; rw [hc]; rfl
  have hx : ix ByteArray.empty = [] := by unfold ix; rw [hc]; rfl
  have e : gc [eC] 0 = eC := rfl
  refine ⟨by simp, by simp, by rw [e]; exact Int.le_refl _, by rw [e]; show (0 : Int) ≤ 100000; omega, fun i hi => ?_, by rw [e]; exact Int.le_refl _, by rw [e]; show (0 : Int) ≤ 0 + _; omega, ?_⟩
  · obtain rfl : i = 0 := by simp at hi; omega
    refine ⟨⟨by show (0 : Nat) ≤ 60; omega, ?_, ?_⟩, rfl, fun h => by simp at h⟩
    · rw [e]; exact hw
    · rw [e]; exact hx.symm
  · show atg [eC] 0 + (cnt (gc [eC] 0).s : Int) - (gc [eC] 0).f ≤ 60
    rw [e]
    show (0 : Int) + (cnt ByteArray.empty : Int) - 0 ≤ 60
    rw [hc]
    omega
theorem tx_new : TxC [eC] := fun j hj => by
  obtain rfl : j = 0 := by simp at hj; omega
  exact ⟨by show (0 : Nat) ≤ _; omega, by show (0 : Nat) ≤ _; omega⟩
theorem x_new : ∀ i, i < 1 → (gc [eC] i).x.length ≤ 1048576 := fun i hi => by
  obtain rfl : i = 0 := by omega
  show (0 : Nat) ≤ _
  omega
end Go.Proofs.YtbcljhafdpnjbabDoor.L6
