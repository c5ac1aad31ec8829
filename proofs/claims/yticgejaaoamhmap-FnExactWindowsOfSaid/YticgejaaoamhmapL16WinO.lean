/-
  Contract: impl.WindowsOf.
-/
import Derived.Test.YticgejaaoamhmapL16Wins
import Derived.Test.YticgejaaoamhmapL16Told
import Derived.Test.YticgejaaoamhmapL16WinR
namespace Go.Proofs.Yticgejaaoamhmap.L16
open Go.RowKit L1
set_option linter.unusedVariables false

set_option maxRecDepth 100000 in
set_option maxHeartbeats 4000000 in
theorem windowsOf_any (b off : Nat) (l : List (Int × Int)) (n cap : Nat) (s : Int) (w : World) (hn : l.length = n) (hs : Sl2 w (some ⟨b, off, none⟩) l) (hn2 : n ≤ 1048576) (hcap : n ≤ cap) (r : Option (List Wn)) (hr : r = winR l s) :
    Calls Try.prog 16 #[.slice (some ⟨b, off, none⟩) n cap, .int .i64 s] w fun e w' => RetW w r e w' := by
  obtain ⟨c, hc⟩ : ∃ c : Bool, c = true ↔ Ctr l := by classical exact ⟨decide (Ctr l), by simp⟩
  have CO := hide (counterOk_any (some ⟨b, off, none⟩) l n cap w hn hs hn2 c hc)
  have HS := hide hs
  have HN := hide hn
  cases hq : c with
  | false =>
    have HR := hide (show r = none by rw [hr]; unfold winR; rw [if_neg (fun h => by have := hc.2 h.1; rw [hq] at this; cases this)])
    subst hq
    clear hc hr hs hn
    go_enter Try.func16, Try.ntmps16
    go_wp2_with fail
    refine CO.out.mono ?_
    rintro e w1 ⟨rfl, hb1⟩
    have B1 := hide hb1
    clear hb1
    go_wp2
    go_ret2
    exact retW_none HR.out B1.out
  | true =>
  have hct := hc.1 hq
  have HC := hide hct
  subst hq
  clear hc
  by_cases p1 : s < 1
  · have HR := hide (show r = none by rw [hr]; unfold winR; rw [if_neg (fun h => by have := h.2.1; omega)])
    clear hr hs hn hct
    go_enter Try.func16, Try.ntmps16
    go_wp2_with fail
    refine CO.out.mono ?_
    rintro e w1 ⟨rfl, hb1⟩
    have B1 := hide hb1
    clear hb1
    go_wp2
    go_ret2
    exact retW_none HR.out B1.out
  by_cases p2 : 1000000 < s
  · have HR := hide (show r = none by rw [hr]; unfold winR; rw [if_neg (fun h => by have := h.2.2; omega)])
    clear hr hs hn hct
    go_enter Try.func16, Try.ntmps16
    go_wp2_with fail
    refine CO.out.mono ?_
    rintro e w1 ⟨rfl, hb1⟩
    have B1 := hide hb1
    clear hb1
    go_wp2
    go_ret2
    exact retW_none HR.out B1.out
  have h1 : 1 ≤ s ∧ s ≤ 1000000 := by omega
  have h40 : n ≤ 40 := by have := hct.len; omega
  have HR := hide (show r = some (winK l s n) by rw [hr]; unfold winR; rw [if_pos ⟨hct, h1⟩, hn])
  obtain ⟨i1, hi1, hy0, hy1, hy2⟩ := info_parts info_Win
  have CW := hide (fun wx hs => windows_any b off l n cap s wx HN.out hs HC.out hcap h1)
  clear hr hs hn hct
  go_enter Try.func16, Try.ntmps16
  go_wp2_with fail
  refine CO.out.mono ?_
  rintro e w1 ⟨rfl, hb1⟩
  have B1 := hide hb1
  have HS1 := hide (HS.out.below hb1)
  clear hb1
  go_wp2_with fail
  refine (CW.out _ HS1.out).mono ?_
  rintro e w2 ⟨v, P, rfl, HB, ho2, hb2⟩
  obtain ⟨m, hm⟩ : ∃ m, m = P.length := ⟨_, rfl⟩
  rw [← hm] at ho2
  obtain ⟨va, vc, rfl⟩ := own_shapeW ho2
  have HP := hide ho2
  have HM := hide hm
  have hbs := HB.win HC.out h1.1
  have hm40 : m ≤ 40 := by omega
  have HPQ := hide hbs.2.2.2.2
  have HWK := hide hbs.2.2.2.1
  have B2 := hide (B1.out.trans (hb2.mono B1.out.size))
  have HS2 := hide (HS1.out.below hb2)
  clear hb2 ho2 hm hbs HB
  go_upto_region 5 with fail
  go_loopw [6, 25] (fun ov i wr => ∃ k : Nat, k ≤ m ∧ i = .int .i64 (k : Int) ∧ Hid (wr.ownsRow w2.heap.size 52 5 ov k (flatW ((P.map (wnAt l s)).take k))) ∧ Hid (Below w2.heap.size w2 wr)) (fun _ i _ => m - (intOf i).toNat)
  case atStart => exact ⟨0, Nat.zero_le _, rfl, World.ownsRow_nil _ _ _ _, Below.refl _ _⟩
  case round =>
    obtain ⟨k, hk, rfl, HO, BW⟩ := hrel
    obtain ⟨oa, oc, rfl⟩ := own_shapeW HO.out
    by_cases hlt : k < m
    · have hltI : (k : Int) < (m : Int) := by omega
      obtain ⟨g, q, rfl, hcl⟩ := own_cellsW HP.out (by omega)
      have hkP : k < P.length := by have := HM.out; omega
      have fg := flatP_get b off l s cap P k hkP
      obtain ⟨p, hp⟩ : ∃ p, p = P.getD k 0 := ⟨_, rfl⟩
      rw [← hp] at fg
      have hpn : p < l.length := by
        refine HPQ.out p ?_
        rw [hp, List.getD, List.getElem?_eq_getElem hkP, Option.getD_some]
        exact List.getElem_mem hkP
      obtain ⟨wl1, wl2, wl3, wl4⟩ := wl_is HC.out h1.1 hpn
      have hx0 := (BW.out.cell (p := ⟨g, q + k * 2, none⟩) (blk_lt (hcl _ _ fg.1))).trans (hcl _ _ fg.1)
      have hx1 := (BW.out.cell (p := ⟨g, q + (k * 2 + 1), none⟩) (blk_lt (hcl _ _ fg.2))).trans (hcl _ _ fg.2)
      rw [show q + (k * 2 + 1) = q + k * 2 + 1 by omega] at hx1
      have HFL := hide (show flatW ((P.map (wnAt l s)).take (k + 1)) = flatW ((P.map (wnAt l s)).take k) ++ [.int .i64 (fr s (at_ l p)), .int .i64 (vl (wl l s p) 0), .int .i64 (vl (wl l s p) (nxt l s p - p - 1)), .int .i64 ((nxt l s p - p : Nat) : Int), .int .i64 (ris (wl l s p) (nxt l s p - p))] by rw [← List.map_take, ← List.map_take, take_moreN hkP, List.map_append, flatW_append, ← hp]; show _ ++ flatW [wnAt l s p] = _; rw [wl4]; rfl)
      have HSD := hide (fun (wx : World) (hb : Below w2.heap.size w2 wx) => sl2_takeW (sl2_dropW (HS2.out.below hb) p) (nxt l s p - p))
      have CT := hide (fun wx hs => told_any b (off + p * 2) (wl l s p) (nxt l s p - p) (cap - p) (fr s (at_ l p)) wx wl1 hs wl2 wl3)
      obtain ⟨z, hz⟩ : ∃ z, z = nxt l s p - p := ⟨_, rfl⟩
      rw [← hz] at HSD CT HFL hx0
      obtain ⟨f, hf⟩ : ∃ z, z = fr s (at_ l p) := ⟨_, rfl⟩
      rw [← hf] at CT HFL hx1
      obtain ⟨y0, hy0'⟩ : ∃ z, z = vl (wl l s p) 0 := ⟨_, rfl⟩
      obtain ⟨y1, hy1'⟩ : ∃ y, y = vl (wl l s p) (z - 1) := ⟨_, rfl⟩
      obtain ⟨rr, hrr⟩ : ∃ y, y = ris (wl l s p) z := ⟨_, rfl⟩
      rw [← hy0', ← hy1', ← hrr] at CT HFL
      have HSE := hide (show ∀ wx, Below w2.heap.size w2 wx → Sl2 wx (some ⟨b, off + p * 2, none⟩) (wl l s p) from fun wx hb => by have := HSD.out wx hb; rw [hz] at this; exact this)
      clear HSD hz hf hy0' hy1' hrr wl1 wl2 wl3 wl4 fg hp hpn hcl
      go_upto_region 7 with fail
      obtain ⟨WA, hWA⟩ : ∃ WA, wr.alloc (.cells #[.slice (some ⟨b, off + p * 2, none⟩) z (cap - p), .int .i64 f] 57 (0, 0)) = WA := ⟨_, rfl⟩
      have EA := hide (show Below wr.heap.size wr WA by rw [← hWA]; exact (Below.refl _ _).alloc (Nat.le_refl _) _)
      have x0 : WA.cell? ⟨wr.heap.size, 0, none⟩ = some (.slice (some ⟨b, off + p * 2, none⟩) z (cap - p)) := by rw [← hWA]; simp
      have x1 : WA.cell? ⟨wr.heap.size, 1, none⟩ = some (.int .i64 f) := by rw [← hWA]; simp
      rw [hWA]
      clear hWA hx0 hx1
      go_wp2_with fail
      refine (CT.out _ (HSE.out _ (BW.out.trans (EA.out.mono BW.out.size)))).mono ?_
      rintro e w3 ⟨rfl, hb3⟩
      have E3 := hide (EA.out.trans (hb3.mono EA.out.size))
      have B3 := hide (BW.out.trans (E3.out.mono BW.out.size))
      have O3 := hide (own_belowW HO.out E3.out)
      have hsz := B3.out.size
      clear hb3 x0 x1 HO
      go_wp2_with (first
        | (at_builtin; refine wpList_append_own _ rfl _ _ 31 rfl w2.heap.size 52 i1 (.agg #[.int .i64 0, .int .i64 0, .int .i64 0, .int .i64 0, .int .i64 0]) 5 40 Try.underlying31 hi1 hy0 hy1 hy2 rfl (by decide) _ _ _ rfl (own_belowW O3.out ((Below.refl _ _).alloc (Nat.le_refl _) _)) ⟨w3.heap.size, 0, none⟩ 1 1 [.int .i64 f, .int .i64 y0, .int .i64 y1, .int .i64 (z : Int), .int .i64 rr] rfl rfl (cell_five16 _ _ _ _ _ _ _) (by intro u hu; simp at hu; rcases hu with rfl | rfl | rfl | rfl | rfl <;> rfl) (by unfold maxLen; omega) (by omega) (by simp; omega) ?_)
        | go_in)
      intro v6 w6 hown6 hgrow6 _
      have B6 := hide ((B3.out.alloc hsz (.cells #[.int .i64 f, .int .i64 y0, .int .i64 y1, .int .i64 (z : Int), .int .i64 rr] 52)).grown hgrow6 (by simp; omega) (fun g hg => (O3.out.lt g hg).1))
      have O6 := hide (show w6.ownsRow w2.heap.size 52 5 v6 (k + 1) (flatW ((P.map (wnAt l s)).take (k + 1))) from by rw [HFL.out]; exact hown6)
      obtain ⟨a6, c6, rfl⟩ := own_shapeW hown6
      clear hown6 hgrow6
      go_wp2
      go_roundw
      case rel => exact ⟨k + 1, by omega, by go_num, O6, B6⟩
      case measure => simp [intOf]; omega
    · have hltI : ¬ (k : Int) < (m : Int) := by omega
      obtain rfl : k = m := by omega
      have O2 := hide (own_baseS16 HO.out B2.out.size)
      have B9 := hide (B2.out.trans (BW.out.mono B2.out.size))
      have HPT := hide (show (P.map (wnAt l s)).take k = P.map (wnAt l s) from List.take_of_length_le (by rw [List.length_map, HM.out]; exact Nat.le_refl _))
      have HLN := hide (show (winK l s n).length = k by rw [HWK.out, List.length_map, HM.out])
      go_wp2
      go_ret2
      exact ⟨_, by rw [HR.out]; rfl, by rw [HR.out]; simp only [Option.getD_some]; rw [HLN.out, HWK.out]; have := O2.out; rw [HPT.out] at this; exact this, B9.out⟩
end Go.Proofs.Yticgejaaoamhmap.L16
